/-
  What the laws stand on, part 4 of 4: plain lemmas; no condition.
-/
import Derived.Test.YtpdjcfhmdeeikaaPlc
set_option linter.unusedSimpArgs false
set_option linter.unusedVariables false
set_option linter.unusedSectionVars false
namespace Go.Proofs.Ytpdjcfhmdeeikaa
open Go.RowKit Go.DL

set_option maxHeartbeats 4000000 in
theorem pbitsM_c (l : List Bool) (hl : l.length ≤ 1099511627776) : FunM Try.prog 25 [rdO l] [] (fun o H' => o = .ret (ow 0 (bitsM l).length 1) ∧ H' = [tb 5 (bitsM l).length (bytesD (bitsM l))]) := by
  refine FunM.of Try.func25 rfl (Nat.le_of_ble_eq_true rfl) fun C => ?_
  refine WC.seq fun Fh1_ h1_ => ?_
  refine WC.region ?_
  refine RG.op _ _ rfl rfl (o_assign (.v _) rfl) ?_
  refine RG.nil (h1_ _ ?_)
  refine WC.seq fun Fh2_ h2_ => ?_
  refine WC.region ?_
  refine RG.op _ _ rfl rfl (o_move (.rd _ _) rfl) ?_
  refine RG.op _ _ rfl rfl (o_len_rd rfl Try.underlying55) ?_
  refine RG.op _ _ rfl rfl (o_add rfl rfl (by first | omega | exact ubyte _ | (simp only [LS] <;> omega)) (by first | omega | exact ubyte _ | (simp only [LS] <;> omega))) ?_
  refine RG.op _ _ rfl rfl (o_quo rfl rfl (by first | omega | exact ubyte _ | (simp only [LS] <;> omega)) (by first | omega | exact ubyte _ | (simp only [LS] <;> omega)) (by first | omega | exact ubyte _ | (simp only [LS] <;> omega))) ?_
  refine RG.op _ _ rfl rfl (o_makeT ((l.length + 7) / 8) ((l.length + 7) / 8) ((l.length + 7) / 8) rfl rfl Try.underlying24 Ty.inf5 rfl rfl (by omega) (by omega) (by omega) (by omega) (by omega)) ?_
  refine RG.op _ _ rfl rfl (o_assign (.own _ _ _ _ _) rfl) ?_
  refine RG.nil (h2_ _ ?_)
  refine WC.seq fun Fh3_ h3_ => ?_
  refine WC.seq fun Fh4_ h4_ => ?_
  refine WC.region ?_
  refine RG.op _ _ rfl rfl (o_move (.rd _ _) rfl) ?_
  refine RG.op _ _ rfl rfl (o_len_rd rfl Try.underlying55) ?_
  refine RG.op _ _ rfl rfl (o_move (.v _) rfl) ?_
  refine RG.nil (h4_ _ ?_)
  refine WC.block ?_
  refine WC.loopU [4, 5, 13, 14, 15, 16, 17, 18, 19, 20, 21, 22, 23, 24, 25, 26, 27, 28, 29, 30] (fun (k : Nat) => [(13, I64 ((k : Nat) : Int))]) (fun (k : Nat) => [(0, tb 5 ((l.length + 7) / 8) (bytesD (qbits (lb l) k ((l.length + 7) / 8))))]) (fun (k : Nat) => k ≤ l.length) (fun (k : Nat) => l.length - k) 0 (by first | omega | exact ubyte _ | (simp only [LS] <;> omega)) ?lpa5_ ?lpb6_
  case lpa5_ =>
    exact .mk' ⟨⟨rfl, .v _⟩, trivial⟩ (same_refl _ _) (congrArg (fun c => [c]) (tb_eq rfl (zs_qbits (lb l) _))) (by repeat (first | exact trivial | refine And.intro (Nat.le_refl _) ?_ | refine And.intro trivial ?_ | refine And.intro (by show _ ≤ _; (first | omega | (simp only [LS] <;> omega))) ?_)) (by repeat (first | exact trivial | refine And.intro (one_ok (.own _ _ _ _ _ (Nat.le_refl _))) ?_ | refine And.intro (okp (by repeat (first | exact pu_bytes _ | exact pu_nil | exact pu_vs rfl | exact pu_map (fun _ => .v _) _ | exact pu_vals _ | refine pu_app ?_ ?_ | refine pu_cons (by exact pu_of rfl) ?_))) ?_))
  case lpb6_ =>
    rintro k hI
    have h7 : (qbits (lb l) k ((l.length + 7) / 8)).length = (l.length + 7) / 8 := qbits_len _ _ _
    refine WC.seq fun Fh7_ h7_ => ?_
    refine WC.region ?_
    refine RG.op _ _ rfl rfl (o_ltI rfl rfl) ?_
    refine RG.nil (h7_ _ ?_)
    refine WC.seq fun Fh8_ h8_ => ?_
    refine WC.cond _ rfl (fun c3 => ?_) (fun c3 => ?_)
    ·
      have p3 := c3
      try simp only [CN] at p3
      have hkl : k < l.length := by omega
      have hk8 : k / 8 < (l.length + 7) / 8 := by omega
      refine WC.skip (h8_ _ ?_)
      refine WC.seq fun Fh9_ h9_ => ?_
      refine WC.block ?_
      refine WC.seq fun Fh10_ h10_ => ?_
      refine WC.region ?_
      refine RG.op _ _ rfl rfl (o_move (.v _) rfl) ?_
      refine RG.op _ _ rfl rfl (o_ixn_M k rfl rfl Try.underlying55 (sz_of Ty.inf4) (by first | omega | exact ubyte _ | (simp only [LS] <;> omega)) (by first | omega | exact ubyte _ | (simp only [LS] <;> omega))) ?_
      refine RG.op _ _ rfl rfl (o_load_adr rfl Try.underlying4 rfl rfl) ?_
      refine RG.op _ _ rfl rfl (o_assign (.v _) rfl) ?_
      refine RG.op _ _ rfl rfl (o_assign (.v _) rfl) ?_
      refine RG.nil (h10_ _ ?_)
      refine WC.seq fun Fh11_ h11_ => ?_
      refine WC.region ?_
      refine RG.op _ _ rfl rfl (o_move (.v _) rfl) ?_
      refine RG.nil (h11_ _ ?_)
      refine WC.cond _ rfl (fun c5 => ?_) (fun c5 => ?_)
      ·
        have p5 := c5
        try simp only [CN] at p5
        have hbt : lb l k = true := (lb_at hkl).symm.trans c5
        refine WC.region ?_
        refine RG.op _ _ rfl rfl (o_move (.own _ _ _ _ _) rfl) ?_
        refine RG.op _ _ rfl rfl (o_move (.v _) rfl) ?_
        refine RG.op _ _ rfl rfl (o_quo rfl rfl (by first | omega | exact ubyte _ | (simp only [LS] <;> omega)) (by first | omega | exact ubyte _ | (simp only [LS] <;> omega)) (by first | omega | exact ubyte _ | (simp only [LS] <;> omega))) ?_
        refine RG.op _ _ rfl rfl (o_ixn_own (k / 8) rfl rfl Try.underlying24 (sz_of Ty.inf5) (by omega) (by omega)) ?_
        refine RG.op _ _ rfl rfl (o_load_ptr (d := B8 (UInt8.ofNat (qb (lb l) k (k / 8) 8))) rfl Try.underlying5 rfl rfl rfl (qbits_get1 hk8)) ?_
        refine RG.op _ _ rfl rfl (o_move (.v _) rfl) ?_
        refine RG.op _ _ rfl rfl (o_rem rfl rfl (by first | omega | exact ubyte _ | (simp only [LS] <;> omega)) (by first | omega | exact ubyte _ | (simp only [LS] <;> omega))) ?_
        refine RG.op _ _ rfl rfl (o_i64toU rfl Try.underlying3 Try.underlying66) ?_
        refine RG.op _ _ rfl rfl (o_shl1 rfl rfl (by omega)) ?_
        refine RG.op _ _ rfl rfl (o_orB rfl rfl) ?_
        refine RG.op _ _ rfl rfl (o_ixn_own (k / 8) rfl rfl Try.underlying24 (sz_of Ty.inf5) (by omega) (by omega)) ?_
        refine RG.op _ _ rfl rfl (o_store (d := .v _) rfl rfl rfl rfl (sz_of Ty.inf5) (by show 0 + k / 8 * 1 + 1 ≤ (bytesD _).length; rw [bytesD_len]; omega) rfl) ?_
        refine RG.nil (h9_ _ ?_)
        refine WC.region ?_
        refine RG.op _ _ rfl rfl (o_add rfl rfl (by first | omega | exact ubyte _ | (simp only [LS] <;> omega)) (by first | omega | exact ubyte _ | (simp only [LS] <;> omega))) ?_
        refine RG.op _ _ rfl rfl (o_move (.v _) rfl) ?_
        refine RG.nil (Exists.intro (k + 1) ⟨by first | omega | (simp only [LS] <;> omega), by first | omega | (simp only [LS] <;> omega), ?_⟩)
        exact .mk' ⟨⟨rfl, .v _⟩, trivial⟩ (by repeat (first | with_reducible exact same_refl _ _ | with_reducible refine same_updO (by with_unfolding_all exact rfl) ?_ | with_reducible refine same_updN ?_ | with_reducible refine same_updL (by with_unfolding_all exact rfl) ?_ | with_reducible refine same_forget (by with_unfolding_all exact rfl) ?_)) (congrArg (fun c => [c]) (tb_eq rfl (qbits_put1 hbt hk8 (by rw [shrI]; exact or_bit (qb_at (lb l) k) (by omega))))) (by repeat (first | exact trivial | refine And.intro (Nat.le_refl _) ?_ | refine And.intro trivial ?_ | refine And.intro (by show _ ≤ _; (first | omega | (simp only [LS] <;> omega))) ?_)) (by repeat (first | exact trivial | refine And.intro (one_ok (.own _ _ _ _ _ (Nat.le_refl _))) ?_ | refine And.intro (okp (by repeat (first | exact pu_bytes _ | exact pu_nil | exact pu_vs rfl | exact pu_map (fun _ => .v _) _ | exact pu_vals _ | refine pu_app ?_ ?_ | refine pu_cons (by exact pu_of rfl) ?_))) ?_))
      ·
        have p5 := c5
        try simp only [CN] at p5
        have hbf : ¬ lb l k = true := fun h => by rw [← lb_at hkl, show _ = false from c5] at h; cases h
        refine WC.skip (h9_ _ ?_)
        refine WC.region ?_
        refine RG.op _ _ rfl rfl (o_add rfl rfl (by first | omega | exact ubyte _ | (simp only [LS] <;> omega)) (by first | omega | exact ubyte _ | (simp only [LS] <;> omega))) ?_
        refine RG.op _ _ rfl rfl (o_move (.v _) rfl) ?_
        refine RG.nil (Exists.intro (k + 1) ⟨by first | omega | (simp only [LS] <;> omega), by first | omega | (simp only [LS] <;> omega), ?_⟩)
        exact .mk' ⟨⟨rfl, .v _⟩, trivial⟩ (by repeat (first | with_reducible exact same_refl _ _ | with_reducible refine same_updO (by with_unfolding_all exact rfl) ?_ | with_reducible refine same_updN ?_ | with_reducible refine same_updL (by with_unfolding_all exact rfl) ?_ | with_reducible refine same_forget (by with_unfolding_all exact rfl) ?_)) (congrArg (fun c => [c]) (tb_eq rfl (by rw [qbits_same hbf]))) (by repeat (first | exact trivial | refine And.intro (Nat.le_refl _) ?_ | refine And.intro trivial ?_ | refine And.intro (by show _ ≤ _; (first | omega | (simp only [LS] <;> omega))) ?_)) (by repeat (first | exact trivial | refine And.intro (one_ok (.own _ _ _ _ _ (Nat.le_refl _))) ?_ | refine And.intro (okp (by repeat (first | exact pu_bytes _ | exact pu_nil | exact pu_vs rfl | exact pu_map (fun _ => .v _) _ | exact pu_vals _ | refine pu_app ?_ ?_ | refine pu_cons (by exact pu_of rfl) ?_))) ?_))
    ·
      have p3 := c3
      try simp only [CN] at p3
      refine WC.exit (h3_ _ ?_)
      refine WC.seq fun Fh12_ h12_ => ?_
      refine WC.region ?_
      refine RG.op _ _ rfl rfl (o_move (.own _ _ _ _ _) rfl) ?_
      refine RG.op _ _ rfl rfl (o_assign (.own _ _ _ _ _) rfl) ?_
      refine RG.nil (h12_ _ ?_)
      refine WC.ret ?_
      first | refine endM.mk (H0 := []) 1 [_] rfl rfl (by repeat (first | exact trivial | refine And.intro (one_ok (.own _ _ _ _ _ (Nat.le_refl _))) ?_ | refine And.intro (okp (by repeat (first | exact pu_bytes _ | exact pu_nil | exact pu_vs rfl | exact pu_map (fun _ => .v _) _ | exact pu_vals _ | refine pu_app ?_ ?_ | refine pu_cons (by exact pu_of rfl) ?_))) ?_)) ?_ | (simp only [thenQ, blkQ, noGo]; refine endM.mk (H0 := []) 1 [_] rfl rfl (by repeat (first | exact trivial | refine And.intro (one_ok (.own _ _ _ _ _ (Nat.le_refl _))) ?_ | refine And.intro (okp (by repeat (first | exact pu_bytes _ | exact pu_nil | exact pu_vs rfl | exact pu_map (fun _ => .v _) _ | exact pu_vals _ | refine pu_app ?_ ?_ | refine pu_cons (by exact pu_of rfl) ?_))) ?_)) ?_) | refine endM.mk 1 [_] rfl rfl (by repeat (first | exact trivial | refine And.intro (one_ok (.own _ _ _ _ _ (Nat.le_refl _))) ?_ | refine And.intro (okp (by repeat (first | exact pu_bytes _ | exact pu_nil | exact pu_vs rfl | exact pu_map (fun _ => .v _) _ | exact pu_vals _ | refine pu_app ?_ ?_ | refine pu_cons (by exact pu_of rfl) ?_))) ?_)) ?_
      exact EndsM.r1 rfl (.tmp _ (.own _ _ _ _ _) rfl) (by first | exact .own _ _ _ _ _ (Nat.le_refl _) | exact .v _ | exact Pure'.ok (by exact pu_of rfl) _ | exact .tup _ (by repeat (first | exact ok_nil | refine ok_cons (by first | exact .own _ _ _ _ _ (Nat.le_refl _) | exact .ptr _ _ _ (Nat.le_refl _) | exact .v _ | exact Pure'.ok (by exact pu_of rfl) _) ?_))) (by have e : k = l.length := (by omega); subst e; exact ⟨congrArg DOut.ret (ow_eq (bitsM_len l).symm), congrArg (fun c => [c]) (tb_eq (bitsM_len l).symm rfl)⟩)
/-! ### What a column is -/
def kOK (c : UInt8) (v : Val) : Bool := decide (v.k = 0) || decide (v.k = c)
def colM (c : UInt8) (l : List Val) : Bool := tyB c && (decide (l.length ≤ 65536) && l.all fun v => mayM v && kOK c v)
theorem colM_iff {c : UInt8} {l : List Val} : colM c l = true ↔ tyB c = true ∧ l.length ≤ 65536 ∧ (∀ v ∈ l, mayM v = true) ∧ ∀ v ∈ l, v.k = 0 ∨ v.k = c := by
  unfold colM kOK
  simp only [Bool.and_eq_true, decide_eq_true_eq, List.all_eq_true, Bool.or_eq_true]
  exact ⟨fun h => ⟨h.1, h.2.1, fun v hv => (h.2.2 v hv).1, fun v hv => (h.2.2 v hv).2⟩, fun h => ⟨h.1, h.2.1, fun v hv => ⟨h.2.2.1 v hv, h.2.2.2 v hv⟩⟩⟩
theorem colM_no {c : UInt8} {l : List Val} (h : ¬ (tyB c = true ∧ l.length ≤ 65536 ∧ (∀ v ∈ l, mayM v = true) ∧ ∀ v ∈ l, v.k = 0 ∨ v.k = c)) : colM c l = false := by
  rw [Bool.eq_false_iff]; exact fun h2 => h (colM_iff.1 h2)
theorem tyB_range {c : UInt8} : tyB c = true ↔ 1 ≤ c.toNat ∧ c.toNat ≤ 3 := by
  constructor
  · intro h; rcases tyB_cases h with e | e | e <;> subst e <;> decide
  · intro h
    have : c = 1 ∨ c = 2 ∨ c = 3 := by
      rcases (by omega : c.toNat = 1 ∨ c.toNat = 2 ∨ c.toNat = 3) with e | e | e
      · exact .inl (UInt8.toNat_inj.1 e)
      · exact .inr (.inl (UInt8.toNat_inj.1 e))
      · exact .inr (.inr (UInt8.toNat_inj.1 e))
    rcases this with e | e | e <;> subst e <;> rfl
set_option maxRecDepth 20000 in
set_option maxHeartbeats 4000000 in
theorem rcolumn_c (c : UInt8) (l : List Val) (hl : l.length ≤ 9223372036854775807) : Fun Try.prog 21 [B8 c, rdV l] (· = Bo (colM c l)) := by
  have n1 : (1 : UInt8).toNat = 1 := rfl
  have n3 : (3 : UInt8).toNat = 3 := rfl
  refine Fun.of Try.func21 rfl (Nat.le_of_ble_eq_true rfl) fun C => ?_
  refine WC.seq fun Fh1_ h1_ => ?_
  refine WC.region ?_
  refine RG.op _ _ rfl rfl (o_assign (.v _) rfl) ?_
  refine RG.nil (h1_ _ ?_)
  refine WC.seq fun Fh2_ h2_ => ?_
  refine WC.seq fun Fh3_ h3_ => ?_
  refine WC.region ?_
  refine RG.op _ _ rfl rfl (o_move (.v _) rfl) ?_
  refine RG.op _ _ rfl rfl (o_ltB (b := 1) rfl rfl) ?_
  refine RG.op _ _ rfl rfl (o_move (.v _) rfl) ?_
  refine RG.opg1 _ _ _ _ _ rfl rfl rfl rfl rfl (fun hb => o_move (.v _) rfl) ?_
  refine RG.opg1 _ _ _ _ _ rfl rfl rfl rfl rfl (fun hb => o_gtB (b := 3) (gdT hb) rfl) ?_
  refine RG.op _ _ rfl rfl (o_or _ _ rfl rfl rfl) ?_
  refine RG.op _ _ rfl rfl (o_move (.v _) rfl) ?_
  refine RG.opg1 _ _ _ _ _ rfl rfl rfl rfl rfl (fun hb => o_move (.rd _ _) rfl) ?_
  refine RG.opg1 _ _ _ _ _ rfl rfl rfl rfl rfl (fun hb => o_len_rd (gdT hb) Try.underlying22) ?_
  refine RG.opg1 _ _ _ _ _ rfl rfl rfl rfl rfl (fun hb => o_gtI (gdT hb) rfl) ?_
  refine RG.op _ _ rfl rfl (o_or _ _ rfl rfl rfl) ?_
  refine RG.nil (h3_ _ ?_)
  refine WC.cond _ rfl (fun c1 => ?_) (fun c1 => ?_)
  ·
    have p1 := c1
    try simp only [CN] at p1
    refine WC.seq fun Fh4_ h4_ => ?_
    refine WC.region ?_
    refine RG.op _ _ rfl rfl (o_assign (.v _) rfl) ?_
    refine RG.nil (h4_ _ ?_)
    refine WC.ret ?_
    exact Ends.r1 rfl (.tmp _ (.v _) rfl) (.v _) (congrArg Bo (colM_no (by rw [tyB_range]; rintro ⟨h1, h2, _⟩; omega)).symm)
  ·
    have p1 := c1
    try simp only [CN] at p1
    have hty : tyB c = true ∧ l.length ≤ 65536 := by rw [tyB_range]; omega
    refine WC.skip (h2_ _ ?_)
    refine WC.seq fun Fh5_ h5_ => ?_
    refine WC.seq fun Fh6_ h6_ => ?_
    refine WC.region ?_
    refine RG.op _ _ rfl rfl (o_assign (.v _) rfl) ?_
    refine RG.nil (h6_ _ ?_)
    refine WC.block ?_
    refine WC.loopU [4, 5, 17, 18, 19, 20, 21, 22, 23, 24, 25, 26, 27, 28, 29, 30, 31, 32, 33, 34, 35, 36, 37, 38, 39, 40, 41, 42, 43, 44, 45] (fun (k : Nat) => [(5, I64 ((k : Nat) : Int))]) (fun (k : Nat) => []) (fun (k : Nat) => k ≤ l.length ∧ ∀ i, i < k → mayM (l.getD i z0) = true ∧ ((l.getD i z0).k = 0 ∨ (l.getD i z0).k = c)) (fun (k : Nat) => l.length - k) 0 ⟨Nat.zero_le _, fun i h => absurd h (Nat.not_lt_zero i)⟩ ?lpa7_ ?lpb8_
    case lpa7_ =>
      exact .mk' ⟨⟨rfl, .v _⟩, trivial⟩ (same_refl _ _) (rfl) (by repeat (first | exact trivial | refine And.intro (Nat.le_refl _) ?_ | refine And.intro trivial ?_ | refine And.intro (by show _ ≤ _; (first | omega | (simp only [LS] <;> omega))) ?_)) (by repeat (first | exact trivial | refine And.intro (one_ok (.own _ _ _ _ _ (Nat.le_refl _))) ?_ | refine And.intro (okp (by repeat (first | exact pu_bytes _ | exact pu_nil | exact pu_vs rfl | exact pu_map (fun _ => .v _) _ | exact pu_vals _ | refine pu_app ?_ ?_ | refine pu_cons (by exact pu_of rfl) ?_))) ?_))
    case lpb8_ =>
      rintro k hI
      have hk1 := hI.1
      have hk2 := hI.2
      refine WC.seq fun Fh9_ h9_ => ?_
      refine WC.seq fun Fh10_ h10_ => ?_
      refine WC.region ?_
      refine RG.op _ _ rfl rfl (o_move (.v _) rfl) ?_
      refine RG.op _ _ rfl rfl (o_move (.rd _ _) rfl) ?_
      refine RG.op _ _ rfl rfl (o_len_rd rfl Try.underlying22) ?_
      refine RG.op _ _ rfl rfl (o_ltI rfl rfl) ?_
      refine RG.nil (h10_ _ ?_)
      refine WC.cond _ rfl (fun c4 => ?_) (fun c4 => ?_)
      ·
        have p4 := c4
        try simp only [CN] at p4
        have hkl : k < l.length := by omega
        have hgd := gv_at hkl
        refine WC.skip (h9_ _ ?_)
        refine WC.seq fun Fh11_ h11_ => ?_
        refine WC.block ?_
        refine WC.seq fun Fh12_ h12_ => ?_
        refine WC.region ?_
        refine RG.op _ _ rfl rfl (o_move (.rd _ _) rfl) ?_
        refine RG.op _ _ rfl rfl (o_move (.v _) rfl) ?_
        refine RG.op _ _ rfl rfl (o_ixn_L k vc_len rfl rfl rfl Try.underlying22 (sz_of Ty.inf36) (by first | omega | exact ubyte _ | (simp only [LS] <;> omega)) (by first | omega | exact ubyte _ | (simp only [LS] <;> omega))) ?_
        refine RG.op _ _ rfl rfl (o_load_adr_L (xs := [_, _, _]) rfl Try.underlying36 rfl (sz_of Ty.inf36) rfl) ?_
        first | refine RG.op _ _ rfl rfl (o_call Ty.cal18 (may_cv _) ⟨.inl rfl, trivial⟩ (by exact pua rfl)) ?_ | refine RG.op _ _ rfl rfl (o_call Ty.cal18 (may_c _ _ _) ⟨.inl rfl, trivial⟩ (by exact pua rfl)) ?_
        refine RG.op _ _ rfl rfl (o_not rfl) ?_
        refine RG.op _ _ rfl rfl (o_move (.v _) rfl) ?_
        refine RG.opg1 _ _ _ _ _ rfl rfl rfl rfl rfl (fun hb => o_move (.rd _ _) rfl) ?_
        refine RG.opg1 _ _ _ _ _ rfl rfl rfl rfl rfl (fun hb => o_move (.v _) rfl) ?_
        refine RG.opg1 _ _ _ _ _ rfl rfl rfl rfl rfl (fun hb => o_ixn_LZ (⟨0, 0, []⟩ : Val) k vc_len rfl (gdT hb) (gdT hb) Try.underlying22 (sz_of Ty.inf36) (by first | omega | exact ubyte _ | (have hb' := hb; simp only [CN] at hb'; omega) | (simp only [LS] <;> omega) | (have hb' := hb; simp only [CN] at hb'; simp only [LS]; omega)) (by first | omega | exact ubyte _ | (have hb' := hb; simp only [CN] at hb'; omega) | (simp only [LS] <;> omega) | (have hb' := hb; simp only [CN] at hb'; simp only [LS]; omega))) ?_
        refine RG.opg1 _ _ _ _ _ rfl rfl rfl rfl rfl (fun hb => o_fld_adr (gdT hb) Try.underlying36 rfl (sz_of Ty.inf5) (by decide)) ?_
        refine RG.opg1 _ _ _ _ _ rfl rfl rfl rfl rfl (fun hb => o_load_adr (gdT hb) Try.underlying5 rfl rfl) ?_
        refine RG.opg1 _ _ _ _ _ rfl rfl rfl rfl rfl (fun hb => o_neB (b := 0) (gdT hb) rfl) ?_
        refine RG.opg1 _ _ _ _ _ rfl rfl rfl rfl rfl (fun hb => o_move (.v _) (gdT hb)) ?_
        refine RG.opg2 _ _ _ _ _ _ rfl rfl rfl rfl rfl (fun hb => o_move (.rd _ _) rfl) ?_
        refine RG.opg2 _ _ _ _ _ _ rfl rfl rfl rfl rfl (fun hb => o_move (.v _) rfl) ?_
        refine RG.opg2 _ _ _ _ _ _ rfl rfl rfl rfl rfl (fun hb => o_ixn_LZ (⟨0, 0, []⟩ : Val) k vc_len rfl (gdT hb) (gdT hb) Try.underlying22 (sz_of Ty.inf36) (by first | omega | exact ubyte _ | (have hb' := hb; simp only [CN] at hb'; omega) | (simp only [LS] <;> omega) | (have hb' := hb; simp only [CN] at hb'; simp only [LS]; omega)) (by first | omega | exact ubyte _ | (have hb' := hb; simp only [CN] at hb'; omega) | (simp only [LS] <;> omega) | (have hb' := hb; simp only [CN] at hb'; simp only [LS]; omega))) ?_
        refine RG.opg2 _ _ _ _ _ _ rfl rfl rfl rfl rfl (fun hb => o_fld_adr (gdT hb) Try.underlying36 rfl (sz_of Ty.inf5) (by decide)) ?_
        refine RG.opg2 _ _ _ _ _ _ rfl rfl rfl rfl rfl (fun hb => o_load_adr (gdT hb) Try.underlying5 rfl rfl) ?_
        refine RG.opg2 _ _ _ _ _ _ rfl rfl rfl rfl rfl (fun hb => o_move (.v _) rfl) ?_
        refine RG.opg2 _ _ _ _ _ _ rfl rfl rfl rfl rfl (fun hb => o_neB (gdT hb) (gdT hb)) ?_
        refine RG.opg1 _ _ _ _ _ rfl rfl rfl rfl rfl (fun hb => o_and _ _ (gdT hb) (gdS hb) rfl) ?_
        refine RG.op _ _ rfl rfl (o_or _ _ rfl rfl rfl) ?_
        refine RG.nil (h12_ _ ?_)
        refine WC.cond _ rfl (fun c6 => ?_) (fun c6 => ?_)
        ·
          have p6 := c6
          try simp only [CN] at p6
          have hbad : mayM (l.getD k z0) = false ∨ ¬ ((l.getD k z0).k = 0 ∨ (l.getD k z0).k = c) := by rcases p6 with h | h; (rw [hgd] at h; exact .inl h); exact .inr (fun h2 => by rcases h2 with a | a; exact h.1 a; exact h.2 a)
          refine WC.seq fun Fh13_ h13_ => ?_
          refine WC.region ?_
          refine RG.op _ _ rfl rfl (o_assign (.v _) rfl) ?_
          refine RG.nil (h13_ _ ?_)
          refine WC.ret ?_
          exact Ends.r1 rfl (.tmp _ (.v _) rfl) (.v _) (congrArg Bo (colM_no (by rintro ⟨_, _, h3, h4⟩; have hm := List.getElem_mem hkl; rw [hgd] at hm; rcases hbad with h | h; (rw [h3 _ hm] at h; cases h); exact h (h4 _ hm))).symm)
        ·
          have p6 := c6
          try simp only [CN] at p6
          have hgood : mayM (l.getD k z0) = true ∧ ((l.getD k z0).k = 0 ∨ (l.getD k z0).k = c) := by have a := p6.1; rw [hgd] at a; exact ⟨a, p6.2⟩
          refine WC.skip (h11_ _ ?_)
          refine WC.region ?_
          refine RG.op _ _ rfl rfl (o_move (.v _) rfl) ?_
          refine RG.op _ _ rfl rfl (o_add rfl rfl (by first | omega | exact ubyte _ | (simp only [LS] <;> omega)) (by first | omega | exact ubyte _ | (simp only [LS] <;> omega))) ?_
          refine RG.op _ _ rfl rfl (o_assign (.v _) rfl) ?_
          refine RG.nil (Exists.intro (k + 1) ⟨⟨by omega, fun i hi => by by_cases e : i = k; (subst e; exact hgood); exact hk2 i (by omega)⟩, by first | omega | (simp only [LS] <;> omega), ?_⟩)
          exact .mk' ⟨⟨rfl, .v _⟩, trivial⟩ (by repeat (first | with_reducible exact same_refl _ _ | with_reducible refine same_updO (by with_unfolding_all exact rfl) ?_ | with_reducible refine same_updN ?_ | with_reducible refine same_updL (by with_unfolding_all exact rfl) ?_ | with_reducible refine same_forget (by with_unfolding_all exact rfl) ?_)) (rfl) (by repeat (first | exact trivial | refine And.intro (Nat.le_refl _) ?_ | refine And.intro trivial ?_ | refine And.intro (by show _ ≤ _; (first | omega | (simp only [LS] <;> omega))) ?_)) (by repeat (first | exact trivial | refine And.intro (one_ok (.own _ _ _ _ _ (Nat.le_refl _))) ?_ | refine And.intro (okp (by repeat (first | exact pu_bytes _ | exact pu_nil | exact pu_vs rfl | exact pu_map (fun _ => .v _) _ | exact pu_vals _ | refine pu_app ?_ ?_ | refine pu_cons (by exact pu_of rfl) ?_))) ?_))
      ·
        have p4 := c4
        try simp only [CN] at p4
        refine WC.exit (h5_ _ ?_)
        refine WC.seq fun Fh14_ h14_ => ?_
        refine WC.region ?_
        refine RG.op _ _ rfl rfl (o_assign (.v _) rfl) ?_
        refine RG.nil (h14_ _ ?_)
        refine WC.ret ?_
        exact Ends.r1 rfl (.tmp _ (.v _) rfl) (.v _) (congrArg Bo (colM_iff.2 ⟨hty.1, hty.2, fun v hv => by obtain ⟨i, hi, rfl⟩ := List.getElem_of_mem hv; rw [gv_at hi]; exact (hk2 i (by omega)).1, fun v hv => by obtain ⟨i, hi, rfl⟩ := List.getElem_of_mem hv; rw [gv_at hi]; exact (hk2 i (by omega)).2⟩).symm)
def nuB (l : List Val) : List Bool := l.map fun v => decide (v.k = 0)
def mks (l : List Val) : List Val := l.filter fun v => !decide (v.k = 0)
def pay (c : UInt8) (m : List Val) : List UInt8 := if c = 1 then bitsM (trM m) else if c = 2 then putI5 (nuM m) else txM (tsM m)
def colB (c : UInt8) (l : List Val) : List UInt8 := bitsM (nuB l) ++ pay c (mks l)
def colP (c : UInt8) (l : List Val) : Option (List UInt8) := bif colM c l then some (colB c l) else none
theorem nuB_len (l : List Val) : (nuB l).length = l.length := List.length_map _
theorem nuB_take {l : List Val} {k : Nat} (h : k < l.length) : nuB (l.take (k + 1)) = nuB (l.take k) ++ [decide (l[k].k = 0)] := by rw [List.take_succ_eq_append_getElem h]; unfold nuB; rw [List.map_append]; rfl
theorem mks_take {l : List Val} {k : Nat} (h : k < l.length) : mks (l.take (k + 1)) = mks (l.take k) ++ if l[k].k = 0 then [] else [l[k]] := by
  rw [List.take_succ_eq_append_getElem h]; unfold mks; rw [List.filter_append]
  congr 1
  by_cases e : l[k].k = 0
  · rw [if_pos e, List.filter_cons_of_neg (by simp [e])]; rfl
  · rw [if_neg e, List.filter_cons_of_pos (by simp [e])]; rfl
theorem mks_len (l : List Val) : (mks l).length ≤ l.length := List.length_filter_le _ _
theorem mks_mem {l : List Val} {v : Val} : v ∈ mks l ↔ v ∈ l ∧ ¬ v.k = 0 := by unfold mks; rw [List.mem_filter]; simp
theorem mks_k {c : UInt8} {l : List Val} (h : ∀ v ∈ l, v.k = 0 ∨ v.k = c) : ∀ v ∈ mks l, v.k = c := fun v hv => by
  obtain ⟨h1, h2⟩ := mks_mem.1 hv
  exact (h v h1).resolve_left h2
theorem szT_mks (l : List Val) : szT (tsM (mks l)) ≤ szM l := by
  induction l with
  | nil => exact Nat.zero_le _
  | cons v l ih =>
    have e : szM (v :: l) = 2 * v.t.length + 11 + szM l := by simp [szM]
    unfold mks at *
    by_cases hv : v.k = 0
    · rw [List.filter_cons_of_neg (by simp [hv])]; omega
    · rw [List.filter_cons_of_pos (by simp [hv])]
      have e2 : szT (tsM (v :: l.filter fun v => !decide (v.k = 0))) = v.t.length + 10 + szT (tsM (l.filter fun v => !decide (v.k = 0))) := by simp [szT, tsM]
      omega
def lpf (c : UInt8) : Nat := if c = 1 then 35 else if c = 2 then 37 else 39
theorem lpv_eq {c : UInt8} (h : tyB c = true) : lpv c = .func (.func (lpf c)) #[] #[] := by
  rcases tyB_cases h with h | h | h <;> subst h <;> rfl
theorem cal_lpf (c : UInt8) : DL.Callee Try.prog (lpf c) := by
  unfold lpf
  split
  · exact Ty.cal35
  · split
    · exact Ty.cal37
    · exact Ty.cal39
theorem lpay_c {c : UInt8} (hc : tyB c = true) (m : List Val) (h1 : m.length ≤ 65536) (h2 : szT (tsM m) ≤ 109951162777) : Fun Try.prog (lpf c) [rdV m] (· = rdB (pay c m)) := by
  rcases tyB_cases hc with h | h | h
  · subst h; exact pbools_c m (by omega)
  · subst h; exact pints_c m (by omega)
  · subst h; exact ptexts_c m h2
theorem pay_len {c : UInt8} {m : List Val} (h1 : m.length ≤ 65536) (h2 : szT (tsM m) ≤ 109951162777) : (pay c m).length ≤ 329853488341 := by
  unfold pay
  split
  · rw [bitsM_len, trM_len]; omega
  · split
    · have := putI5_len (nuM m) (by rw [nuM_len]; omega)
      rw [nuM_len] at this; omega
    · have h3 := szT_words (tsM m)
      have h4 := txB_len (W := wordsF (tsM m)) (T := tsM m) (j := (wordsF (tsM m)).length) (k := (tsM m).length) (by omega)
      rw [txB_all, tsM_len] at h4
      omega
theorem resA_no {c : UInt8} {l : List Val} (h : ¬ (tyB c = true ∧ l.length ≤ 65536 ∧ (∀ v ∈ l, mayM v = true) ∧ ∀ v ∈ l, v.k = 0 ∨ v.k = c)) : D.tup [D.rd 0 [], I64 1] = resA (colP c l) := by
  unfold colP; rw [colM_no h]; rfl
theorem colP_ok {c : UInt8} {l : List Val} (h : colM c l = true) : colP c l = some (colB c l) := by unfold colP; rw [h]; rfl
theorem app_all {l : List Val} : (bif (appM [] l).isSome then (0 : Int) else 1) = 0 ↔ l.all mayM = true := by
  unfold appM
  cases l.all mayM <;> simp
set_option maxRecDepth 20000 in
set_option maxHeartbeats 4000000 in
theorem cput_c (c : UInt8) (l : List Val) (hs : szM l ≤ 109951162777) : Fun Try.prog 12 [B8 c, rdV l] (· = resA (colP c l)) := by
  have hsl := szM_ge l
  have hsm := szT_mks l
  have hml := mks_len l
  refine Fun.of Try.func12 rfl (Nat.le_of_ble_eq_true rfl) fun C => ?_
  refine WC.seq fun Fh1_ h1_ => ?_
  refine WC.region ?_
  refine RG.op _ _ rfl rfl (o_assign (.v _) rfl) ?_
  refine RG.op _ _ rfl rfl (o_assign (.v _) rfl) ?_
  refine RG.nil (h1_ _ ?_)
  refine WC.seq fun Fh2_ h2_ => ?_
  refine WC.region ?_
  refine RG.op _ _ rfl rfl (o_call Ty.cal23 (lay_c) trivial (by exact pua rfl)) ?_
  refine RG.op _ _ rfl rfl (o_move (.v _) rfl) ?_
  refine RG.op _ _ rfl rfl (layLook_c rfl rfl) ?_
  refine RG.op _ _ rfl rfl (o_move (.tup _) rfl) ?_
  refine RG.op _ _ rfl rfl (o_extract rfl rfl) ?_
  refine RG.op _ _ rfl rfl (o_extract rfl rfl) ?_
  refine RG.op _ _ rfl rfl (o_alloc (z_of Ty.inf51) rfl) ?_
  refine RG.op _ _ rfl rfl (o_store rfl rfl rfl rfl (sz_of Ty.inf51) (show 0 + 2 ≤ 2 from Nat.le_refl _) (lv_one _)) ?_
  refine RG.op _ _ rfl rfl (o_assign (.v _) rfl) ?_
  refine RG.nil (h2_ _ ?_)
  refine WC.seq fun Fh3_ h3_ => ?_
  refine WC.seq fun Fh4_ h4_ => ?_
  refine WC.region ?_
  refine RG.op _ _ rfl rfl (o_move (.v _) rfl) ?_
  refine RG.op _ _ rfl rfl (o_not rfl) ?_
  refine RG.op _ _ rfl rfl (o_move (.v _) rfl) ?_
  refine RG.opg1 _ _ _ _ _ rfl rfl rfl rfl rfl (fun hb => o_move (.rd _ _) rfl) ?_
  refine RG.opg1 _ _ _ _ _ rfl rfl rfl rfl rfl (fun hb => o_len_rd (gdT hb) Try.underlying22) ?_
  refine RG.opg1 _ _ _ _ _ rfl rfl rfl rfl rfl (fun hb => o_gtI (gdT hb) rfl) ?_
  refine RG.op _ _ rfl rfl (o_or _ _ rfl rfl rfl) ?_
  refine RG.nil (h4_ _ ?_)
  refine WC.cond _ rfl (fun c2 => ?_) (fun c2 => ?_)
  ·
    have p2 := c2
    try simp only [CN] at p2
    refine WC.seq fun Fh5_ h5_ => ?_
    refine WC.region ?_
    refine RG.op _ _ rfl rfl (o_assign (.v _) rfl) ?_
    refine RG.op _ _ rfl rfl (o_assign (.v _) rfl) ?_
    refine RG.nil (h5_ _ ?_)
    refine WC.ret ?_
    exact Ends.r2 rfl (.tmp _ (.v _) rfl) (.tmp _ (.v _) rfl) .nilr (.v _) (resA_no (by rintro ⟨h1, h2, _⟩; rcases p2 with h | h; (rw [h1] at h; cases h); omega))
  ·
    have p2 := c2
    try simp only [CN] at p2
    have hty : tyB c = true ∧ l.length ≤ 65536 := ⟨p2.1, by omega⟩
    refine WC.skip (h3_ _ ?_)
    refine WC.seq fun Fh6_ h6_ => ?_
    refine WC.region ?_
    refine RG.op _ _ rfl rfl (o_nil 36 3) ?_
    refine RG.nil (h6_ _ ?_)
    refine WC.seq fun Fh7_ h7_ => ?_
    refine WC.region ?_
    refine RG.op _ _ rfl rfl (o_move (.rd _ _) rfl) ?_
    refine RG.op _ _ rfl rfl (o_len_rd rfl Try.underlying22) ?_
    refine RG.op _ _ rfl rfl (o_makeT l.length l.length l.length rfl rfl Try.underlying55 Ty.inf4 rfl rfl (by first | omega | exact ubyte _ | (simp only [LS] <;> omega)) (by first | omega | exact ubyte _ | (simp only [LS] <;> omega)) (by first | omega | exact ubyte _ | (simp only [LS] <;> omega)) (by first | omega | exact ubyte _ | (simp only [LS] <;> omega)) (by first | omega | exact ubyte _ | (simp only [LS] <;> omega))) ?_
    refine RG.op _ _ rfl rfl (o_assign (.own _ _ _ _ _) rfl) ?_
    refine RG.nil (h7_ _ ?_)
    refine WC.seq fun Fh8_ h8_ => ?_
    refine WC.seq fun Fh9_ h9_ => ?_
    refine WC.region ?_
    refine RG.op _ _ rfl rfl (o_move (.rd _ _) rfl) ?_
    refine RG.op _ _ rfl rfl (o_len_rd rfl Try.underlying22) ?_
    refine RG.op _ _ rfl rfl (o_move (.v _) rfl) ?_
    refine RG.nil (h9_ _ ?_)
    refine WC.block ?_
    refine WC.loopU [4, 5, 8, 10, 11, 32, 33, 34, 35, 36, 37, 38, 39, 40, 41, 42, 43, 44, 45, 46, 47, 48, 49, 50, 51, 52, 53, 54, 55, 56, 57, 58, 59] (fun (k : Nat) => [(32, I64 ((k : Nat) : Int)), (8, ow 1 (mks (l.take k)).length 3)]) (fun (k : Nat) => [(1, tb 36 (mks (l.take k)).length ((mks (l.take k)).flatMap vc)), (2, tb 4 l.length ((nuB (l.take k) ++ List.replicate (l.length - k) false).map Bo))]) (fun (k : Nat) => k ≤ l.length ∧ ∀ i, i < k → (l.getD i z0).k = 0 ∨ (l.getD i z0).k = c) (fun (k : Nat) => l.length - k) 0 ⟨Nat.zero_le _, fun i h => absurd h (Nat.not_lt_zero i)⟩ ?lpa10_ ?lpb11_
    case lpa10_ =>
      exact .mk' ⟨⟨rfl, .v _⟩, ⟨rfl, (by first | exact .own _ _ _ _ _ (Nat.le_refl _) | exact .ptr _ _ _ (Nat.le_refl _) | exact .omp _ _ (Nat.le_refl _))⟩, trivial⟩ (same_refl _ _) (heq3 rfl rfl (tb_eq rfl ((zs1 rfl l.length).trans (by simp [nuB])))) (by repeat (first | exact trivial | refine And.intro (Nat.le_refl _) ?_ | refine And.intro trivial ?_ | refine And.intro (by show _ ≤ _; (first | omega | (simp only [LS] <;> omega))) ?_)) (by repeat (first | exact trivial | refine And.intro (one_ok (.own _ _ _ _ _ (Nat.le_refl _))) ?_ | refine And.intro (okp (by repeat (first | exact pu_bytes _ | exact pu_nil | exact pu_vs rfl | exact pu_map (fun _ => .v _) _ | exact pu_vals _ | refine pu_app ?_ ?_ | refine pu_cons (by exact pu_of rfl) ?_))) ?_))
    case lpb11_ =>
      rintro k hI
      have hk1 := hI.1
      have hk2 := hI.2
      have hnl := nuB_len (l.take k)
      have hkm := mks_len (l.take k)
      rw [List.length_take] at hnl hkm
      refine WC.seq fun Fh12_ h12_ => ?_
      refine WC.region ?_
      refine RG.op _ _ rfl rfl (o_ltI rfl rfl) ?_
      refine RG.nil (h12_ _ ?_)
      refine WC.seq fun Fh13_ h13_ => ?_
      refine WC.cond _ rfl (fun c7 => ?_) (fun c7 => ?_)
      ·
        have p7 := c7
        try simp only [CN] at p7
        have hkl : k < l.length := by omega
        have hgd := gv_at hkl
        refine WC.skip (h13_ _ ?_)
        refine WC.seq fun Fh14_ h14_ => ?_
        refine WC.block ?_
        refine WC.seq fun Fh15_ h15_ => ?_
        refine WC.region ?_
        refine RG.op _ _ rfl rfl (o_move (.v _) rfl) ?_
        refine RG.op _ _ rfl rfl (o_ixn_L k vc_len rfl rfl rfl Try.underlying22 (sz_of Ty.inf36) (by first | omega | exact ubyte _ | (simp only [LS] <;> omega)) (by first | omega | exact ubyte _ | (simp only [LS] <;> omega))) ?_
        refine RG.op _ _ rfl rfl (o_load_adr_L (xs := [_, _, _]) rfl Try.underlying36 rfl (sz_of Ty.inf36) rfl) ?_
        refine RG.op _ _ rfl rfl (o_alloc (z_of Ty.inf36) rfl) ?_
        refine RG.op _ _ rfl rfl (o_assign (.v _) rfl) ?_
        refine RG.op _ _ rfl rfl (o_store (d := (.agg [_, _, _])) rfl rfl rfl rfl (sz_of Ty.inf36) (Nat.le_of_ble_eq_true rfl) rfl) ?_
        refine RG.nil (h15_ _ ?_)
        refine WC.seq fun Fh16_ h16_ => ?_
        refine WC.region ?_
        refine RG.op _ _ rfl rfl (o_move (.own _ _ _ _ _) rfl) ?_
        refine RG.op _ _ rfl rfl (o_move (.v _) rfl) ?_
        refine RG.op _ _ rfl rfl (o_fld_ptr rfl Try.underlying36 rfl (sz_of Ty.inf5) (by decide)) ?_
        refine RG.op _ _ rfl rfl (o_load_ptr rfl Try.underlying5 rfl rfl rfl rfl) ?_
        refine RG.op _ _ rfl rfl (o_eqB (b := 0) rfl rfl) ?_
        refine RG.op _ _ rfl rfl (o_ixn_own k rfl rfl Try.underlying55 (sz_of Ty.inf4) (by omega) (by omega)) ?_
        refine RG.op _ _ rfl rfl (o_store (d := .v _) rfl rfl rfl rfl (sz_of Ty.inf4) (by show 0 + k * 1 + 1 ≤ (List.map Bo _).length; rw [List.length_map, List.length_append, List.length_replicate]; omega) rfl) ?_
        refine RG.nil (h16_ _ ?_)
        refine WC.seq fun Fh17_ h17_ => ?_
        refine WC.seq fun Fh18_ h18_ => ?_
        refine WC.region ?_
        refine RG.op _ _ rfl rfl (o_fld_ptr rfl Try.underlying36 rfl (sz_of Ty.inf5) (by decide)) ?_
        refine RG.op _ _ rfl rfl (o_load_ptr rfl Try.underlying5 rfl rfl rfl rfl) ?_
        refine RG.op _ _ rfl rfl (o_neB (b := 0) rfl rfl) ?_
        refine RG.op _ _ rfl rfl (o_move (.v _) rfl) ?_
        refine RG.opg1 _ _ _ _ _ rfl rfl rfl rfl rfl (fun hb => o_fld_ptr rfl Try.underlying36 rfl (sz_of Ty.inf5) (by decide)) ?_
        refine RG.opg1 _ _ _ _ _ rfl rfl rfl rfl rfl (fun hb => o_load_ptr (gdT hb) Try.underlying5 rfl rfl rfl rfl) ?_
        refine RG.opg1 _ _ _ _ _ rfl rfl rfl rfl rfl (fun hb => o_move (.v _) rfl) ?_
        refine RG.opg1 _ _ _ _ _ rfl rfl rfl rfl rfl (fun hb => o_neB (gdT hb) (gdT hb)) ?_
        refine RG.op _ _ rfl rfl (o_and _ _ rfl rfl rfl) ?_
        refine RG.nil (h18_ _ ?_)
        refine WC.cond _ rfl (fun c10 => ?_) (fun c10 => ?_)
        ·
          have p10 := c10
          try simp only [CN] at p10
          refine WC.seq fun Fh19_ h19_ => ?_
          refine WC.region ?_
          refine RG.op _ _ rfl rfl (o_assign (.v _) rfl) ?_
          refine RG.op _ _ rfl rfl (o_assign (.v _) rfl) ?_
          refine RG.nil (h19_ _ ?_)
          refine WC.ret ?_
          exact Ends.r2 rfl (.tmp _ (.v _) rfl) (.tmp _ (.v _) rfl) .nilr (.v _) (resA_no (by rintro ⟨_, _, _, h4⟩; rcases h4 _ (List.getElem_mem hkl) with h | h; exact p10.1 h; exact p10.2 h))
        ·
          have p10 := c10
          try simp only [CN] at p10
          have hgood : (l.getD k z0).k = 0 ∨ (l.getD k z0).k = c := by rw [← hgd]; exact p10
          refine WC.skip (h17_ _ ?_)
          refine WC.seq fun Fh20_ h20_ => ?_
          refine WC.region ?_
          refine RG.op _ _ rfl rfl (o_fld_ptr rfl Try.underlying36 rfl (sz_of Ty.inf5) (by decide)) ?_
          refine RG.op _ _ rfl rfl (o_load_ptr rfl Try.underlying5 rfl rfl rfl rfl) ?_
          refine RG.op _ _ rfl rfl (o_neB (b := 0) rfl rfl) ?_
          refine RG.nil (h20_ _ ?_)
          refine WC.cond _ rfl (fun c12 => ?_) (fun c12 => ?_)
          ·
            have p12 := c12
            try simp only [CN] at p12
            have hk0 : ¬ (l[k]'hkl).k = 0 := p12
            refine WC.region ?_
            refine RG.op _ _ rfl rfl (o_move (.own _ _ _ _ _) rfl) ?_
            refine RG.op _ _ rfl rfl (o_load_ptr_L (xs := [_, _, _]) rfl Try.underlying36 rfl (sz_of Ty.inf36) rfl rfl rfl rfl) ?_
            refine RG.op _ _ rfl rfl (o_litP (cs := [_, _, _]) Try.underlying22 Ty.inf36 rfl rfl rfl rfl (by repeat (first | exact pu_bytes _ | exact pu_nil | exact pu_vs rfl | exact pu_map (fun _ => .v _) _ | exact pu_vals _ | refine pu_app ?_ ?_ | refine pu_cons (by exact pu_of rfl) ?_))) ?_
            refine RG.op _ _ rfl rfl (o_appT (Elem.of Try.underlying22 Ty.inf36 rfl (by decide)) rfl rfl rfl (by first | omega | exact ubyte _ | (simp only [LS] <;> omega)) (by first | omega | exact ubyte _ | (simp only [LS] <;> omega)) (by repeat (first | exact bytesD_one _ | exact one_nil | exact one_map (fun _ => rfl) _ | exact one_vals _ | refine one_app ?_ ?_ | refine one_cons rfl ?_)) (by first | omega | exact ubyte _ | (simp only [LS] <;> omega)) (by first | omega | exact ubyte _ | (simp only [LS] <;> omega))) ?_
            refine RG.op _ _ rfl rfl (o_assign (.own _ _ _ _ _) rfl) ?_
            refine RG.nil (h14_ _ ?_)
            refine WC.region ?_
            refine RG.op _ _ rfl rfl (o_add rfl rfl (by first | omega | exact ubyte _ | (simp only [LS] <;> omega)) (by first | omega | exact ubyte _ | (simp only [LS] <;> omega))) ?_
            refine RG.op _ _ rfl rfl (o_move (.v _) rfl) ?_
            refine RG.nil (Exists.intro (k + 1) ⟨⟨by omega, fun i hi => by by_cases e : i = k; (subst e; exact hgood); exact hk2 i (by omega)⟩, by first | omega | (simp only [LS] <;> omega), ?_⟩)
            exact .mk' ⟨⟨rfl, .v _⟩, ⟨ow_eq (by rw [mks_take hkl, if_neg hk0]; simp), (by first | exact .own _ _ _ _ _ (Nat.le_refl _) | exact .ptr _ _ _ (Nat.le_refl _) | exact .omp _ _ (Nat.le_refl _))⟩, trivial⟩ (by repeat (first | with_reducible exact same_refl _ _ | with_reducible refine same_updO (by with_unfolding_all exact rfl) ?_ | with_reducible refine same_updN ?_ | with_reducible refine same_updL (by with_unfolding_all exact rfl) ?_ | with_reducible refine same_forget (by with_unfolding_all exact rfl) ?_)) (heq3 rfl (tb_eq (by rw [mks_take hkl, if_neg hk0]; simp) (by rw [mks_take hkl, if_neg hk0]; simp [vc])) (tb_eq rfl (by rw [nuB_take hkl]; exact fill1 hkl (by omega)))) (by repeat (first | exact trivial | refine And.intro (Nat.le_refl _) ?_ | refine And.intro trivial ?_ | refine And.intro (by show _ ≤ _; (first | omega | (simp only [LS] <;> omega))) ?_)) (by repeat (first | exact trivial | refine And.intro (one_ok (.own _ _ _ _ _ (Nat.le_refl _))) ?_ | refine And.intro (okp (by repeat (first | exact pu_bytes _ | exact pu_nil | exact pu_vs rfl | exact pu_map (fun _ => .v _) _ | exact pu_vals _ | refine pu_app ?_ ?_ | refine pu_cons (by exact pu_of rfl) ?_))) ?_))
          ·
            have p12 := c12
            try simp only [CN] at p12
            have hk0 : (l[k]'hkl).k = 0 := p12
            refine WC.skip (h14_ _ ?_)
            refine WC.region ?_
            refine RG.op _ _ rfl rfl (o_add rfl rfl (by first | omega | exact ubyte _ | (simp only [LS] <;> omega)) (by first | omega | exact ubyte _ | (simp only [LS] <;> omega))) ?_
            refine RG.op _ _ rfl rfl (o_move (.v _) rfl) ?_
            refine RG.nil (Exists.intro (k + 1) ⟨⟨by omega, fun i hi => by by_cases e : i = k; (subst e; exact hgood); exact hk2 i (by omega)⟩, by first | omega | (simp only [LS] <;> omega), ?_⟩)
            exact .mk' ⟨⟨rfl, .v _⟩, ⟨ow_eq (by rw [mks_take hkl, if_pos hk0]; simp), (by first | exact .own _ _ _ _ _ (Nat.le_refl _) | exact .ptr _ _ _ (Nat.le_refl _) | exact .omp _ _ (Nat.le_refl _))⟩, trivial⟩ (by repeat (first | with_reducible exact same_refl _ _ | with_reducible refine same_updO (by with_unfolding_all exact rfl) ?_ | with_reducible refine same_updN ?_ | with_reducible refine same_updL (by with_unfolding_all exact rfl) ?_ | with_reducible refine same_forget (by with_unfolding_all exact rfl) ?_)) (heq3 rfl (tb_eq (by rw [mks_take hkl, if_pos hk0]; simp) (by rw [mks_take hkl, if_pos hk0]; simp)) (tb_eq rfl (by rw [nuB_take hkl]; exact fill1 hkl (by omega)))) (by repeat (first | exact trivial | refine And.intro (Nat.le_refl _) ?_ | refine And.intro trivial ?_ | refine And.intro (by show _ ≤ _; (first | omega | (simp only [LS] <;> omega))) ?_)) (by repeat (first | exact trivial | refine And.intro (one_ok (.own _ _ _ _ _ (Nat.le_refl _))) ?_ | refine And.intro (okp (by repeat (first | exact pu_bytes _ | exact pu_nil | exact pu_vs rfl | exact pu_map (fun _ => .v _) _ | exact pu_vals _ | refine pu_app ?_ ?_ | refine pu_cons (by exact pu_of rfl) ?_))) ?_))
      ·
        have p7 := c7
        try simp only [CN] at p7
        refine WC.exit (h8_ _ ?_)
        refine WC.seq fun Fh21_ h21_ => ?_
        refine WC.seq fun Fh22_ h22_ => ?_
        have hke : k = l.length := by omega
        subst hke
        have hall : ∀ v ∈ l, v.k = 0 ∨ v.k = c := fun v hv => by obtain ⟨i, hi, rfl⟩ := List.getElem_of_mem hv; rw [gv_at hi]; exact hk2 i (by omega)
        refine WC.region ?_
        refine RG.op _ _ rfl rfl (o_move (.rd _ _) rfl) ?_
        refine RG.op _ _ rfl rfl (o_call Ty.cal24 (app_c [] _ (by first | omega | exact ubyte _ | (simp only [LS] <;> omega))) ⟨.inr ⟨rfl, rfl⟩, .inl rfl, trivial⟩ (by exact pua rfl)) ?_
        refine RG.op _ _ rfl rfl (o_move (.tup _) rfl) ?_
        refine RG.op _ _ rfl rfl (o_extract rfl rfl) ?_
        refine RG.op _ _ rfl rfl (o_extract rfl rfl) ?_
        refine RG.op _ _ rfl rfl (o_assign (.rd _ _) rfl) ?_
        refine RG.op _ _ rfl rfl (o_assign (.v _) rfl) ?_
        refine RG.nil (h22_ _ ?_)
        refine WC.seq fun Fh23_ h23_ => ?_
        refine WC.region ?_
        refine RG.op _ _ rfl rfl (o_move (.v _) rfl) ?_
        refine RG.op _ _ rfl rfl (o_neI rfl rfl) ?_
        refine RG.nil (h23_ _ ?_)
        refine WC.cond _ rfl (fun c16 => ?_) (fun c16 => ?_)
        ·
          have p16 := c16
          try simp only [CN] at p16
          refine WC.seq fun Fh24_ h24_ => ?_
          refine WC.region ?_
          refine RG.op _ _ rfl rfl (o_assign (.v _) rfl) ?_
          refine RG.op _ _ rfl rfl (o_assign (.v _) rfl) ?_
          refine RG.nil (h24_ _ ?_)
          refine WC.ret ?_
          exact Ends.r2 rfl (.tmp _ (.v _) rfl) (.tmp _ (.v _) rfl) .nilr (.v _) (resA_no (by rintro ⟨_, _, h3, _⟩; exact p16 (app_all.2 (List.all_eq_true.2 h3))))
        ·
          have p16 := c16
          try simp only [CN] at p16
          have hcol : colM c l = true := colM_iff.2 ⟨hty.1, hty.2, fun v hv => List.all_eq_true.1 (app_all.1 p16) v hv, hall⟩
          have hpl := pay_len (c := c) (m := mks l) (by omega) (by omega)
          have hbl := bitsM_len (nuB l)
          have hnul := nuB_len l
          rw [nuB_len] at hbl
          refine WC.skip (h21_ _ ?_)
          refine WC.seq fun Fh25_ h25_ => ?_
          refine WC.frz 0 _ [(6, .adr [.v (lpv c), .v (lgv c)])] rfl (by repeat (first | exact pu_bytes _ | exact pu_nil | exact pu_vs rfl | exact pu_map (fun _ => .v _) _ | exact pu_vals _ | refine pu_app ?_ ?_ | refine pu_cons (by exact pu_of rfl) ?_)) ⟨.ptr 0, trivial⟩ ?_
          refine WC.frz 1 _ [(8, rdV (mks l))] rfl (by repeat (first | exact pu_bytes _ | exact pu_nil | exact pu_vs rfl | exact pu_map (fun _ => .v _) _ | exact pu_vals _ | refine pu_app ?_ ?_ | refine pu_cons (by exact pu_of rfl) ?_)) ⟨.rowE rfl (by first | rfl | omega | simp) (by first | rfl | simp [bytesD]), trivial⟩ ?_
          refine WC.frz 2 _ [(9, rdO (nuB l))] rfl (by repeat (first | exact pu_bytes _ | exact pu_nil | exact pu_vs rfl | exact pu_map (fun _ => .v _) _ | exact pu_vals _ | refine pu_app ?_ ?_ | refine pu_cons (by exact pu_of rfl) ?_)) ⟨.rowE rfl (by first | rfl | omega | simp) (by first | rfl | simp [bytesD]), trivial⟩ ?_
          refine WC.drawn2 (by kernel_rfl) ?_
          refine PG.op _ rfl rfl rfl (fun _ _ => o_move (.rd _ _) rfl) ?_
          refine PG.opm _ _ rfl rfl rfl (OpX.d (x_call Ty.cal25 (FunM.new1 (pbitsM_c (nuB l) (by first | omega | exact ubyte _ | (simp only [LS] <;> omega))) ⟨.rd _ _, trivial⟩ (by repeat (first | exact pu_bytes _ | exact pu_nil | exact pu_vs rfl | exact pu_map (fun _ => .v _) _ | exact pu_vals _ | refine pu_app ?_ ?_ | refine pu_cons (by exact pu_of rfl) ?_))) ⟨.inl rfl, trivial⟩) (VLe.le (by repeat (first | exact trivial | refine And.intro (Nat.le_refl _) ?_ | refine And.intro trivial ?_ | refine And.intro (by show _ ≤ _; (first | omega | (simp only [LS] <;> omega))) ?_)))) ?_
          refine PG.op _ rfl rfl rfl (fun _ _ => o_fld_adr rfl Try.underlying51 rfl (sz_of Ty.inf48) (by decide)) ?_
          refine PG.op _ rfl rfl rfl (fun _ _ => o_load_adr rfl Try.underlying48 rfl rfl) ?_
          refine PG.op _ rfl rfl rfl (fun _ _ => o_move (.rd _ _) rfl) ?_
          refine PG.op _ rfl rfl rfl (fun _ _ => o_callV (cs := []) (ds := [rdV (mks l)]) (.inr ⟨congrArg D.v (lpv_eq hty.1), rfl⟩) (cal_lpf _) (lpay_c hty.1 (mks l) (by omega) (by omega)) ⟨.inl rfl, trivial⟩ (by exact pua rfl)) ?_
          refine PG.opm _ _ rfl rfl rfl (o_appT (Elem.of Try.underlying24 Ty.inf5 rfl (by decide)) rfl rfl rfl (by first | omega | exact ubyte _ | (simp only [LS] <;> omega)) (by first | omega | exact ubyte _ | (simp only [LS] <;> omega)) (by repeat (first | exact bytesD_one _ | exact one_nil | exact one_map (fun _ => rfl) _ | exact one_vals _ | refine one_app ?_ ?_ | refine one_cons rfl ?_)) (by first | omega | exact ubyte _ | (simp only [LS] <;> omega)) (by first | omega | exact ubyte _ | (simp only [LS] <;> omega))) ?_
          refine PG.op _ rfl rfl rfl (fun _ _ => o_assign (.own _ _ _ _ _) rfl) ?_
          refine PG.op _ rfl rfl rfl (fun _ _ => o_assign (.v _) rfl) ?_
          refine PG.nil ⟨by kernel_rfl, trivial, (h25_ _ ?_)⟩
          refine WC.ret ?_
          exact Ends.r2 rfl (.tmp _ (.own _ _ _ _ _) rfl) (.tmp _ (.v _) rfl) (.tb rfl (by repeat (first | exact pu_bytes _ | exact pu_nil | exact pu_vs rfl | exact pu_map (fun _ => .v _) _ | exact pu_vals _ | refine pu_app ?_ ?_ | refine pu_cons (by exact pu_of rfl) ?_))) (.v _) (by rw [colP_ok hcol]; exact congrArg (fun c => D.tup [c, I64 0]) (rd_eq (by simp [colB]) (by simp [colB, bytesD_app])))
end Go.Proofs.Ytpdjcfhmdeeikaa

namespace Go.Proofs.Ytpdjcfhmdeeikaa
open Go.RowKit Go.DL

theorem mkM_len (b : List UInt8) (W : List Txt) : ∀ (m a : Nat) (p : List Nat), (mkM b W m a p).2.2 = 0 → (mkM b W m a p).1.length = p.length + m
  | 0, _, _, _ => rfl
  | m + 1, a, p, h => by
    rw [mkM] at h ⊢
    split
    · rename_i e; rw [if_pos e] at h; exact absurd h e
    rename_i e; rw [if_neg e] at h
    split
    · rename_i e; rw [if_pos e] at h; exact absurd h (by decide)
    rename_i e; rw [if_neg e] at h
    rw [mkM_len b W m _ _ h, List.length_append]
    show p.length + 1 + m = _
    omega
theorem gmM_len {b : List UInt8} {W : List Txt} {n : Nat} (h : (gmM b W n).2 = 0) : (gmM b W n).1.length = n := by
  unfold gmM at h ⊢
  by_cases e1 : ¬ (mkM b W n 0 []).2.2 = 0
  · rw [if_pos e1] at h; exact absurd h e1
  rw [if_neg e1] at h ⊢
  split
  · have h2 := mkM_len b W n 0 [] (Decidable.not_not.1 e1)
    rw [List.length_map, List.length_map, h2, List.length_nil]; omega
  · rename_i e; rw [if_neg e] at h; exact absurd h (by decide)
theorem getTl_len {b : List UInt8} {n : Nat} (h : (getTl b n).2 = 0) : (getTl b n).1.length = n := by
  unfold getTl at h ⊢
  split
  · rename_i e; rw [if_pos e] at h; exact absurd h e
  rename_i e; rw [if_neg e] at h
  split
  · rename_i e; rw [if_pos e] at h; exact absurd h (by decide)
  rename_i e; rw [if_neg e] at h
  split
  · rename_i e; rw [if_pos e] at h; exact absurd h e
  rename_i e; rw [if_neg e] at h
  exact gmM_len h
theorem getBl_len {b : List UInt8} {n : Nat} (h : (getBl b n).2 = 0) : (getBl b n).1.length = n := by
  unfold getBl at h ⊢
  split
  · rename_i e; rw [if_pos e] at h
    split
    · rename_i e; rw [if_pos e] at h; exact absurd h (by decide)
    · rw [List.length_map]; exact (getB_len e).1
  · rename_i e; rw [if_neg e] at h; exact absurd h e
theorem getIl_len {b : List UInt8} {n : Nat} (h : (getIl b n).2 = 0) : (getIl b n).1.length = n := by
  unfold getIl at h ⊢
  split
  · rename_i e
    have := (put_get (b := b) (n := n) e).1
    rw [List.length_map]; omega
  · rename_i e; rw [if_neg e] at h; exact absurd h e
def payG (c : UInt8) (b : List UInt8) (n : Nat) : List Val × Nat := if c = 1 then getBl b n else if c = 2 then getIl b n else getTl b n
theorem payG_len {c : UInt8} {b : List UInt8} {n : Nat} (h : (payG c b n).2 = 0) : (payG c b n).1.length = n := by
  unfold payG at h ⊢
  split
  · rename_i e; rw [if_pos e] at h; exact getBl_len h
  · rename_i e; rw [if_neg e] at h
    split
    · rename_i e; rw [if_pos e] at h; exact getIl_len h
    · rename_i e; rw [if_neg e] at h; exact getTl_len h
def cntF (q : List Bool) : Nat := (q.filter fun x => !x).length
theorem cntF_app (a b : List Bool) : cntF (a ++ b) = cntF a + cntF b := by unfold cntF; rw [List.filter_append, List.length_append]
theorem cntF_take {q : List Bool} {k : Nat} (h : k < q.length) : cntF (q.take (k + 1)) = cntF (q.take k) + if q[k] = true then 0 else 1 := by
  rw [List.take_succ_eq_append_getElem h, cntF_app]
  congr 1
  cases q[k] <;> rfl
theorem cntF_le (q : List Bool) (k : Nat) : cntF (q.take k) ≤ cntF q := by
  conv => rhs; rw [← List.take_append_drop k q]
  rw [cntF_app]; omega
theorem cntF_len (q : List Bool) : cntF q ≤ q.length := List.length_filter_le _ _
theorem cntF_lt {q : List Bool} {k : Nat} (h : k < q.length) (h2 : ¬ q[k] = true) : cntF (q.take k) < cntF q := by
  have h1 := cntF_take h
  rw [if_neg h2] at h1
  have := cntF_le q (k + 1)
  omega
def mergeK (q : List Bool) (M : List Val) (k : Nat) : List Val := (List.range k).map fun i => if q.getD i false = true then z0 else M.getD (cntF (q.take i)) z0
theorem mergeK_len (q : List Bool) (M : List Val) (k : Nat) : (mergeK q M k).length = k := by simp [mergeK]
theorem mergeK_succ (q : List Bool) (M : List Val) (k : Nat) : mergeK q M (k + 1) = mergeK q M k ++ [if q.getD k false = true then z0 else M.getD (cntF (q.take k)) z0] := by unfold mergeK; rw [List.range_succ, List.map_append]; rfl
def getC (c : UInt8) (b : List UInt8) (n : Nat) : List Val × Nat :=
  if ¬ (getB b n).2.2 = 0 then ([], (getB b n).2.2) else if ¬ (payG c (b.drop (getB b n).2.1) (cntF (getB b n).1)).2 = 0 then ([], (payG c (b.drop (getB b n).2.1) (cntF (getB b n).1)).2) else (mergeK (getB b n).1 (payG c (b.drop (getB b n).2.1) (cntF (getB b n).1)).1 n, 0)
section
variable {c : UInt8} {b : List UInt8} {n : Nat} {h : List Bool × Nat × Nat} {m : List Val × Nat}
theorem getC_bad (hh : h = getB b n) (h1 : ¬ h.2.2 = 0) : getC c b n = ([], h.2.2) := by subst hh; unfold getC; rw [if_pos h1]
theorem getC_pay (hh : h = getB b n) (h1 : h.2.2 = 0) (hm : m = payG c (b.drop h.2.1) (cntF h.1)) (h2 : ¬ m.2 = 0) : getC c b n = ([], m.2) := by subst hm hh; unfold getC; rw [if_neg (fun x => x h1), if_pos h2]
theorem getC_ok (hh : h = getB b n) (h1 : h.2.2 = 0) (hm : m = payG c (b.drop h.2.1) (cntF h.1)) (h2 : m.2 = 0) : getC c b n = (mergeK h.1 m.1 n, 0) := by subst hm hh; unfold getC; rw [if_neg (fun x => x h1), if_neg (fun x => x h2)]
end
def getCol (c : UInt8) (b : List UInt8) (n : Int) : List Val × Nat := if tyB c = true ∧ 0 ≤ n ∧ n ≤ 65536 then getC c b n.toNat else ([], 1)
def lgf (c : UInt8) : Nat := if c = 1 then 36 else if c = 2 then 38 else 40
theorem lgv_eq {c : UInt8} (h : tyB c = true) : lgv c = .func (.func (lgf c)) #[] #[] := by
  rcases tyB_cases h with h | h | h <;> subst h <;> rfl
theorem cal_lgf (c : UInt8) : DL.Callee Try.prog (lgf c) := by
  unfold lgf
  split
  · exact Ty.cal36
  · split
    · exact Ty.cal38
    · exact Ty.cal40
theorem lpayg_c {c : UInt8} (hc : tyB c = true) (b : List UInt8) (n : Nat) (hb : b.length ≤ 10995116277760) (hn : n ≤ 65536) : Fun Try.prog (lgf c) [rdB b, I64 (n : Nat)] (· = VL (payG c b n)) := by
  rcases tyB_cases hc with h | h | h
  · subst h; exact gbools_c b n hb hn
  · subst h; exact gints_c b n hb hn
  · subst h; exact gtexts_c b n hb hn
theorem getbE_c {b : List UInt8} {n : Nat} {h : List Bool × Nat × Nat} (hh : h = getB b n) (hb : b.length ≤ 10995116277760) (hn : n ≤ 1099511627776) : Fun Try.prog 29 [rdB b, I64 (n : Nat)] (· = OB h) := by subst hh; exact getbits_c b n hb hn
set_option maxHeartbeats 4000000 in
theorem cgetN_c (c : UInt8) (b : List UInt8) (n : Int) (hn : ¬ (tyB c = true ∧ 0 ≤ n ∧ n ≤ 65536)) : Fun Try.prog 16 [B8 c, rdB b, I64 n] (· = VL ([], 1)) := by
  refine Fun.of Try.func16 rfl (Nat.le_of_ble_eq_true rfl) fun C => ?_
  refine WC.seq fun Fh1_ h1_ => ?_
  refine WC.region ?_
  refine RG.op _ _ rfl rfl (o_assign (.v _) rfl) ?_
  refine RG.op _ _ rfl rfl (o_assign (.v _) rfl) ?_
  refine RG.nil (h1_ _ ?_)
  refine WC.seq fun Fh2_ h2_ => ?_
  refine WC.region ?_
  refine RG.op _ _ rfl rfl (o_call Ty.cal23 (lay_c) trivial (by exact pua rfl)) ?_
  refine RG.op _ _ rfl rfl (o_move (.v _) rfl) ?_
  refine RG.op _ _ rfl rfl (layLook_c rfl rfl) ?_
  refine RG.op _ _ rfl rfl (o_move (.tup _) rfl) ?_
  refine RG.op _ _ rfl rfl (o_extract rfl rfl) ?_
  refine RG.op _ _ rfl rfl (o_extract rfl rfl) ?_
  refine RG.op _ _ rfl rfl (o_alloc (z_of Ty.inf51) rfl) ?_
  refine RG.op _ _ rfl rfl (o_store rfl rfl rfl rfl (sz_of Ty.inf51) (show 0 + 2 ≤ 2 from Nat.le_refl _) (lv_one _)) ?_
  refine RG.op _ _ rfl rfl (o_assign (.v _) rfl) ?_
  refine RG.nil (h2_ _ ?_)
  refine WC.seq fun Fh3_ h3_ => ?_
  refine WC.seq fun Fh4_ h4_ => ?_
  refine WC.region ?_
  refine RG.op _ _ rfl rfl (o_move (.v _) rfl) ?_
  refine RG.op _ _ rfl rfl (o_not rfl) ?_
  refine RG.op _ _ rfl rfl (o_move (.v _) rfl) ?_
  refine RG.opg1 _ _ _ _ _ rfl rfl rfl rfl rfl (fun hb => o_move (.v _) rfl) ?_
  refine RG.opg1 _ _ _ _ _ rfl rfl rfl rfl rfl (fun hb => o_ltI (gdT hb) rfl) ?_
  refine RG.op _ _ rfl rfl (o_or _ _ rfl rfl rfl) ?_
  refine RG.op _ _ rfl rfl (o_move (.v _) rfl) ?_
  refine RG.opg1 _ _ _ _ _ rfl rfl rfl rfl rfl (fun hb => o_move (.v _) rfl) ?_
  refine RG.opg1 _ _ _ _ _ rfl rfl rfl rfl rfl (fun hb => o_gtI (gdT hb) rfl) ?_
  refine RG.op _ _ rfl rfl (o_or _ _ rfl rfl rfl) ?_
  refine RG.nil (h4_ _ ?_)
  refine WC.cond _ rfl (fun c2 => ?_) (fun c2 => ?_)
  ·
    have p2 := c2
    try simp only [CN] at p2
    refine WC.seq fun Fh5_ h5_ => ?_
    refine WC.region ?_
    refine RG.op _ _ rfl rfl (o_assign (.v _) rfl) ?_
    refine RG.op _ _ rfl rfl (o_assign (.v _) rfl) ?_
    refine RG.nil (h5_ _ ?_)
    refine WC.ret ?_
    exact Ends.r2 rfl (.tmp _ (.v _) rfl) (.tmp _ (.v _) rfl) .nilr (.v _) (rfl)
  ·
    have p2 := c2
    try simp only [CN] at p2
    exfalso; exact hn ⟨p2.1.1, by omega, by omega⟩
set_option maxRecDepth 20000 in
set_option maxHeartbeats 4000000 in
theorem cgetP_c (c : UInt8) (b : List UInt8) (n : Nat) (hc : tyB c = true) (hb : b.length ≤ 10995116277760) (hn : n ≤ 65536) : Fun Try.prog 16 [B8 c, rdB b, I64 ((n : Nat) : Int)] (· = VL (getC c b n)) := by
  have hh0 : ∃ h, h = getB b n := Exists.intro (getB b n) (Eq.refl _)
  obtain ⟨h, hh⟩ := hh0
  have hg := getbE_c hh hb (by omega)
  refine Fun.of Try.func16 rfl (Nat.le_of_ble_eq_true rfl) fun C => ?_
  refine WC.seq fun Fh1_ h1_ => ?_
  refine WC.region ?_
  refine RG.op _ _ rfl rfl (o_assign (.v _) rfl) ?_
  refine RG.op _ _ rfl rfl (o_assign (.v _) rfl) ?_
  refine RG.nil (h1_ _ ?_)
  refine WC.seq fun Fh2_ h2_ => ?_
  refine WC.region ?_
  refine RG.op _ _ rfl rfl (o_call Ty.cal23 (lay_c) trivial (by exact pua rfl)) ?_
  refine RG.op _ _ rfl rfl (o_move (.v _) rfl) ?_
  refine RG.op _ _ rfl rfl (layLook_c rfl rfl) ?_
  refine RG.op _ _ rfl rfl (o_move (.tup _) rfl) ?_
  refine RG.op _ _ rfl rfl (o_extract rfl rfl) ?_
  refine RG.op _ _ rfl rfl (o_extract rfl rfl) ?_
  refine RG.op _ _ rfl rfl (o_alloc (z_of Ty.inf51) rfl) ?_
  refine RG.op _ _ rfl rfl (o_store rfl rfl rfl rfl (sz_of Ty.inf51) (show 0 + 2 ≤ 2 from Nat.le_refl _) (lv_one _)) ?_
  refine RG.op _ _ rfl rfl (o_assign (.v _) rfl) ?_
  refine RG.nil (h2_ _ ?_)
  refine WC.seq fun Fh3_ h3_ => ?_
  refine WC.seq fun Fh4_ h4_ => ?_
  refine WC.region ?_
  refine RG.op _ _ rfl rfl (o_move (.v _) rfl) ?_
  refine RG.op _ _ rfl rfl (o_not rfl) ?_
  refine RG.op _ _ rfl rfl (o_move (.v _) rfl) ?_
  refine RG.opg1 _ _ _ _ _ rfl rfl rfl rfl rfl (fun hb => o_move (.v _) rfl) ?_
  refine RG.opg1 _ _ _ _ _ rfl rfl rfl rfl rfl (fun hb => o_ltI (gdT hb) rfl) ?_
  refine RG.op _ _ rfl rfl (o_or _ _ rfl rfl rfl) ?_
  refine RG.op _ _ rfl rfl (o_move (.v _) rfl) ?_
  refine RG.opg1 _ _ _ _ _ rfl rfl rfl rfl rfl (fun hb => o_move (.v _) rfl) ?_
  refine RG.opg1 _ _ _ _ _ rfl rfl rfl rfl rfl (fun hb => o_gtI (gdT hb) rfl) ?_
  refine RG.op _ _ rfl rfl (o_or _ _ rfl rfl rfl) ?_
  refine RG.nil (h4_ _ ?_)
  refine WC.cond _ rfl (fun c2 => ?_) (fun c2 => ?_)
  ·
    have p2 := c2
    try simp only [CN] at p2
    exfalso; rcases p2 with (h | h) | h; (rw [hc] at h; cases h); omega; omega
  ·
    have p2 := c2
    try simp only [CN] at p2
    refine WC.skip (h3_ _ ?_)
    refine WC.seq fun Fh5_ h5_ => ?_
    refine WC.region ?_
    refine RG.op _ _ rfl rfl (o_move (.rd _ _) rfl) ?_
    refine RG.op _ _ rfl rfl (o_move (.v _) rfl) ?_
    refine RG.op _ _ rfl rfl ((by exact o_call (ds := [rdB b, I64 (n : Nat)]) Ty.cal29 hg ⟨.inl rfl, .inl rfl, trivial⟩ (by exact pua rfl))) ?_
    refine RG.op _ _ rfl rfl (o_move (.tup _) rfl) ?_
    refine RG.op _ _ rfl rfl (o_extract rfl rfl) ?_
    refine RG.op _ _ rfl rfl (o_extract rfl rfl) ?_
    refine RG.op _ _ rfl rfl (o_extract rfl rfl) ?_
    refine RG.op _ _ rfl rfl (o_assign (.rd _ _) rfl) ?_
    refine RG.op _ _ rfl rfl (o_assign (.v _) rfl) ?_
    refine RG.op _ _ rfl rfl (o_assign (.v _) rfl) ?_
    refine RG.nil (h5_ _ ?_)
    refine WC.seq fun Fh6_ h6_ => ?_
    refine WC.seq fun Fh7_ h7_ => ?_
    refine WC.region ?_
    refine RG.op _ _ rfl rfl (o_move (.v _) rfl) ?_
    refine RG.op _ _ rfl rfl (o_neI rfl rfl) ?_
    refine RG.nil (h7_ _ ?_)
    refine WC.cond _ rfl (fun c5 => ?_) (fun c5 => ?_)
    ·
      have p5 := c5
      try simp only [CN] at p5
      refine WC.seq fun Fh8_ h8_ => ?_
      refine WC.region ?_
      refine RG.op _ _ rfl rfl (o_move (.v _) rfl) ?_
      refine RG.op _ _ rfl rfl (o_assign (.v _) rfl) ?_
      refine RG.op _ _ rfl rfl (o_assign (.v _) rfl) ?_
      refine RG.nil (h8_ _ ?_)
      refine WC.ret ?_
      exact Ends.r2 rfl (.tmp _ (.v _) rfl) (.tmp _ (.v _) rfl) .nilr (.v _) (by rw [getC_bad hh (by omega)]; rfl)
    ·
      have p5 := c5
      try simp only [CN] at p5
      have hz0 : h.2.2 = 0 := by omega
      have hgl := getB_len (b := b) (n := n) (by rw [← hh]; exact hz0)
      rw [← hh] at hgl
      refine WC.skip (h6_ _ ?_)
      refine WC.seq fun Fh9_ h9_ => ?_
      refine WC.region ?_
      refine RG.op _ _ rfl rfl (o_assign (.v _) rfl) ?_
      refine RG.nil (h9_ _ ?_)
      refine WC.seq fun Fh10_ h10_ => ?_
      refine WC.seq fun Fh11_ h11_ => ?_
      refine WC.region ?_
      refine RG.op _ _ rfl rfl (o_move (.rd _ _) rfl) ?_
      refine RG.op _ _ rfl rfl (o_len_rd rfl Try.underlying55) ?_
      refine RG.op _ _ rfl rfl (o_move (.v _) rfl) ?_
      refine RG.nil (h11_ _ ?_)
      refine WC.block ?_
      refine WC.loopU [13, 15, 48, 49, 50, 51, 52, 53, 54, 55, 56] (fun (k : Nat) => [(48, I64 ((k : Nat) : Int)), (13, I64 (((cntF (h.1.take k)) : Nat) : Int))]) (fun (k : Nat) => []) (fun (k : Nat) => k ≤ h.1.length) (fun (k : Nat) => h.1.length - k) 0 (by first | omega | exact ubyte _ | (simp only [LS] <;> omega)) ?lpa12_ ?lpb13_
      case lpa12_ =>
        exact .mk' ⟨⟨rfl, .v _⟩, ⟨rfl, .v _⟩, trivial⟩ (same_refl _ _) (rfl) (by repeat (first | exact trivial | refine And.intro (Nat.le_refl _) ?_ | refine And.intro trivial ?_ | refine And.intro (by show _ ≤ _; (first | omega | (simp only [LS] <;> omega))) ?_)) (by repeat (first | exact trivial | refine And.intro (one_ok (.own _ _ _ _ _ (Nat.le_refl _))) ?_ | refine And.intro (okp (by repeat (first | exact pu_bytes _ | exact pu_nil | exact pu_vs rfl | exact pu_map (fun _ => .v _) _ | exact pu_vals _ | refine pu_app ?_ ?_ | refine pu_cons (by exact pu_of rfl) ?_))) ?_))
      case lpb13_ =>
        rintro k hI
        have hcl := cntF_len (h.1.take k)
        rw [List.length_take] at hcl
        refine WC.seq fun Fh14_ h14_ => ?_
        refine WC.region ?_
        refine RG.op _ _ rfl rfl (o_ltI rfl rfl) ?_
        refine RG.nil (h14_ _ ?_)
        refine WC.seq fun Fh15_ h15_ => ?_
        refine WC.cond _ rfl (fun c9 => ?_) (fun c9 => ?_)
        ·
          have p9 := c9
          try simp only [CN] at p9
          have hkl : k < h.1.length := by omega
          refine WC.skip (h15_ _ ?_)
          refine WC.seq fun Fh16_ h16_ => ?_
          refine WC.block ?_
          refine WC.seq fun Fh17_ h17_ => ?_
          refine WC.region ?_
          refine RG.op _ _ rfl rfl (o_ixn_M k rfl rfl Try.underlying55 (sz_of Ty.inf4) (by first | omega | exact ubyte _ | (simp only [LS] <;> omega)) (by first | omega | exact ubyte _ | (simp only [LS] <;> omega))) ?_
          refine RG.op _ _ rfl rfl (o_load_adr rfl Try.underlying4 rfl rfl) ?_
          refine RG.op _ _ rfl rfl (o_assign (.v _) rfl) ?_
          refine RG.nil (h17_ _ ?_)
          refine WC.seq fun Fh18_ h18_ => ?_
          refine WC.region ?_
          refine RG.op _ _ rfl rfl (o_move (.v _) rfl) ?_
          refine RG.op _ _ rfl rfl (o_not rfl) ?_
          refine RG.nil (h18_ _ ?_)
          refine WC.cond _ rfl (fun c11 => ?_) (fun c11 => ?_)
          ·
            have p11 := c11
            try simp only [CN] at p11
            refine WC.region ?_
            refine RG.op _ _ rfl rfl (o_move (.v _) rfl) ?_
            refine RG.op _ _ rfl rfl (o_add rfl rfl (by first | omega | exact ubyte _ | (simp only [LS] <;> omega)) (by first | omega | exact ubyte _ | (simp only [LS] <;> omega))) ?_
            refine RG.op _ _ rfl rfl (o_assign (.v _) rfl) ?_
            refine RG.nil (h16_ _ ?_)
            refine WC.region ?_
            refine RG.op _ _ rfl rfl (o_add rfl rfl (by first | omega | exact ubyte _ | (simp only [LS] <;> omega)) (by first | omega | exact ubyte _ | (simp only [LS] <;> omega))) ?_
            refine RG.op _ _ rfl rfl (o_move (.v _) rfl) ?_
            refine RG.nil (Exists.intro (k + 1) ⟨by first | omega | (simp only [LS] <;> omega), by first | omega | (simp only [LS] <;> omega), ?_⟩)
            exact .mk' ⟨⟨rfl, .v _⟩, ⟨congrArg I64 (by rw [cntF_take hkl, if_neg (by rw [show _ = false from p11]; decide)]; rfl), .v _⟩, trivial⟩ (by repeat (first | with_reducible exact same_refl _ _ | with_reducible refine same_updO (by with_unfolding_all exact rfl) ?_ | with_reducible refine same_updN ?_ | with_reducible refine same_updL (by with_unfolding_all exact rfl) ?_ | with_reducible refine same_forget (by with_unfolding_all exact rfl) ?_)) (rfl) (by repeat (first | exact trivial | refine And.intro (Nat.le_refl _) ?_ | refine And.intro trivial ?_ | refine And.intro (by show _ ≤ _; (first | omega | (simp only [LS] <;> omega))) ?_)) (by repeat (first | exact trivial | refine And.intro (one_ok (.own _ _ _ _ _ (Nat.le_refl _))) ?_ | refine And.intro (okp (by repeat (first | exact pu_bytes _ | exact pu_nil | exact pu_vs rfl | exact pu_map (fun _ => .v _) _ | exact pu_vals _ | refine pu_app ?_ ?_ | refine pu_cons (by exact pu_of rfl) ?_))) ?_))
          ·
            have p11 := c11
            try simp only [CN] at p11
            refine WC.skip (h16_ _ ?_)
            refine WC.region ?_
            refine RG.op _ _ rfl rfl (o_add rfl rfl (by first | omega | exact ubyte _ | (simp only [LS] <;> omega)) (by first | omega | exact ubyte _ | (simp only [LS] <;> omega))) ?_
            refine RG.op _ _ rfl rfl (o_move (.v _) rfl) ?_
            refine RG.nil (Exists.intro (k + 1) ⟨by first | omega | (simp only [LS] <;> omega), by first | omega | (simp only [LS] <;> omega), ?_⟩)
            exact .mk' ⟨⟨rfl, .v _⟩, ⟨congrArg I64 (by rw [cntF_take hkl, if_pos p11]; rfl), .v _⟩, trivial⟩ (by repeat (first | with_reducible exact same_refl _ _ | with_reducible refine same_updO (by with_unfolding_all exact rfl) ?_ | with_reducible refine same_updN ?_ | with_reducible refine same_updL (by with_unfolding_all exact rfl) ?_ | with_reducible refine same_forget (by with_unfolding_all exact rfl) ?_)) (rfl) (by repeat (first | exact trivial | refine And.intro (Nat.le_refl _) ?_ | refine And.intro trivial ?_ | refine And.intro (by show _ ≤ _; (first | omega | (simp only [LS] <;> omega))) ?_)) (by repeat (first | exact trivial | refine And.intro (one_ok (.own _ _ _ _ _ (Nat.le_refl _))) ?_ | refine And.intro (okp (by repeat (first | exact pu_bytes _ | exact pu_nil | exact pu_vs rfl | exact pu_map (fun _ => .v _) _ | exact pu_vals _ | refine pu_app ?_ ?_ | refine pu_cons (by exact pu_of rfl) ?_))) ?_))
        ·
          have p9 := c9
          try simp only [CN] at p9
          refine WC.exit (h10_ _ ?_)
          refine WC.seq fun Fh19_ h19_ => ?_
          have hke : k = h.1.length := by omega
          subst hke
          have hm0 : ∃ m, m = payG c (b.drop h.2.1) (cntF h.1) := Exists.intro (payG c (b.drop h.2.1) (cntF h.1)) (Eq.refl _)
          obtain ⟨m, hm⟩ := hm0
          have hcn := cntF_len h.1
          have hpg : Fun Try.prog (lgf c) [rdB (b.drop h.2.1), I64 (cntF (h.1.take h.1.length) : Nat)] (· = VL m) := by rw [List.take_length, hm]; exact lpayg_c hc (b.drop h.2.1) (cntF h.1) (by rw [List.length_drop]; omega) (by omega)
          refine WC.drawn1 (by kernel_rfl) ?_
          refine PG.op _ rfl rfl rfl (by rintro _ rfl; exact o_fld_ptr rfl Try.underlying51 rfl (sz_of Ty.inf49) (by decide)) ?_
          refine PG.op _ rfl rfl rfl (by rintro _ rfl; exact o_load_ptr rfl Try.underlying49 rfl rfl rfl rfl) ?_
          refine PG.op _ rfl rfl rfl (by rintro _ rfl; exact o_move (.rd _ _) rfl) ?_
          refine PG.op _ rfl rfl rfl (by rintro _ rfl; exact o_move (.v _) rfl) ?_
          refine PG.op _ rfl rfl rfl (by rintro _ rfl; exact o_dropM (h.2.1) rfl rfl Try.underlying24 (sz_of Ty.inf5) (by first | omega | exact ubyte _ | (simp only [LS] <;> omega)) (by first | omega | exact ubyte _ | (simp only [LS] <;> omega))) ?_
          refine PG.op _ rfl rfl rfl (by rintro _ rfl; exact o_move (.v _) rfl) ?_
          refine PG.op _ rfl rfl rfl (by rintro _ rfl; exact (by exact o_callV (cs := []) (ds := [rdB (b.drop h.2.1), I64 (cntF (h.1.take h.1.length) : Nat)]) (.inr ⟨congrArg D.v (lgv_eq hc), rfl⟩) (cal_lgf _) hpg ⟨.inl rfl, .inl rfl, trivial⟩ (by exact pua rfl))) ?_
          refine PG.op _ rfl rfl rfl (by rintro _ rfl; exact o_move (.tup _) rfl) ?_
          refine PG.op _ rfl rfl rfl (by rintro _ rfl; exact o_extract rfl rfl) ?_
          refine PG.op _ rfl rfl rfl (by rintro _ rfl; exact o_extract rfl rfl) ?_
          refine PG.op _ rfl rfl rfl (by rintro _ rfl; exact o_assign (.rd _ _) rfl) ?_
          refine PG.op _ rfl rfl rfl (by rintro _ rfl; exact o_assign (.v _) rfl) ?_
          refine PG.nil ⟨by kernel_rfl, rfl, (h19_ _ ?_)⟩
          refine WC.seq fun Fh20_ h20_ => ?_
          refine WC.seq fun Fh21_ h21_ => ?_
          refine WC.region ?_
          refine RG.op _ _ rfl rfl (o_move (.v _) rfl) ?_
          refine RG.op _ _ rfl rfl (o_neI rfl rfl) ?_
          refine RG.nil (h21_ _ ?_)
          refine WC.cond _ rfl (fun c15 => ?_) (fun c15 => ?_)
          ·
            have p15 := c15
            try simp only [CN] at p15
            refine WC.seq fun Fh22_ h22_ => ?_
            refine WC.region ?_
            refine RG.op _ _ rfl rfl (o_move (.v _) rfl) ?_
            refine RG.op _ _ rfl rfl (o_assign (.v _) rfl) ?_
            refine RG.op _ _ rfl rfl (o_assign (.v _) rfl) ?_
            refine RG.nil (h22_ _ ?_)
            refine WC.ret ?_
            exact Ends.r2 rfl (.tmp _ (.v _) rfl) (.tmp _ (.v _) rfl) .nilr (.v _) (by rw [getC_pay hh hz0 hm (by omega)]; rfl)
          ·
            have p15 := c15
            try simp only [CN] at p15
            have hz1 : m.2 = 0 := by omega
            have hml := payG_len (c := c) (b := b.drop h.2.1) (n := cntF h.1) (by rw [← hm]; exact hz1)
            rw [← hm] at hml
            refine WC.skip (h20_ _ ?_)
            refine WC.seq fun Fh23_ h23_ => ?_
            refine WC.region ?_
            refine RG.op _ _ rfl rfl (o_move (.v _) rfl) ?_
            refine RG.op _ _ rfl rfl (o_makeT n n n rfl rfl Try.underlying22 Ty.inf36 rfl rfl (by omega) (by omega) (by omega) (by omega) (by omega)) ?_
            refine RG.op _ _ rfl rfl (o_assign (.own _ _ _ _ _) rfl) ?_
            refine RG.nil (h23_ _ ?_)
            refine WC.seq fun Fh24_ h24_ => ?_
            refine WC.seq fun Fh25_ h25_ => ?_
            refine WC.region ?_
            refine RG.op _ _ rfl rfl (o_move (.rd _ _) rfl) ?_
            refine RG.op _ _ rfl rfl (o_len_rd rfl Try.underlying55) ?_
            refine RG.op _ _ rfl rfl (o_move (.v _) rfl) ?_
            refine RG.nil (h25_ _ ?_)
            refine WC.block ?_
            refine WC.loopU [16, 18, 19, 74, 75, 76, 77, 78, 79, 80, 81, 82, 83, 84, 85, 86, 87, 88, 89] (fun (j : Nat) => [(74, I64 ((j : Nat) : Int)), (16, rdV (m.1.drop (cntF (h.1.take j))))]) (fun (j : Nat) => [(1, tb 36 n ((mergeK h.1 m.1 j ++ List.replicate (n - j) z0).flatMap vc))]) (fun (j : Nat) => j ≤ n) (fun (j : Nat) => n - j) 0 (by first | omega | exact ubyte _ | (simp only [LS] <;> omega)) ?lpa26_ ?lpb27_
            case lpa26_ =>
              exact .mk' ⟨⟨rfl, .v _⟩, ⟨rfl, .rd _ _⟩, trivial⟩ (same_refl _ _) (congrArg (fun c => [_, c]) (tb_eq rfl (zs_vals rfl n))) (by repeat (first | exact trivial | refine And.intro (Nat.le_refl _) ?_ | refine And.intro trivial ?_ | refine And.intro (by show _ ≤ _; (first | omega | (simp only [LS] <;> omega))) ?_)) (by repeat (first | exact trivial | refine And.intro (one_ok (.own _ _ _ _ _ (Nat.le_refl _))) ?_ | refine And.intro (okp (by repeat (first | exact pu_bytes _ | exact pu_nil | exact pu_vs rfl | exact pu_map (fun _ => .v _) _ | exact pu_vals _ | refine pu_app ?_ ?_ | refine pu_cons (by exact pu_of rfl) ?_))) ?_))
            case lpb27_ =>
              rintro j hI
              have hcl := cntF_le h.1 j
              have hkl2 := mergeK_len h.1 m.1 j
              have hdl : (m.1.drop (cntF (h.1.take j))).length = m.1.length - cntF (h.1.take j) := List.length_drop
              refine WC.seq fun Fh28_ h28_ => ?_
              refine WC.region ?_
              refine RG.op _ _ rfl rfl (o_ltI rfl rfl) ?_
              refine RG.nil (h28_ _ ?_)
              refine WC.seq fun Fh29_ h29_ => ?_
              refine WC.cond _ rfl (fun c19 => ?_) (fun c19 => ?_)
              ·
                have p19 := c19
                try simp only [CN] at p19
                have hjn : j < n := by omega
                have hjl : j < h.1.length := by omega
                have hgd : h.1.getD j false = h.1[j]'hjl := by rw [List.getD_eq_getElem?_getD, List.getElem?_eq_getElem hjl]; rfl
                refine WC.skip (h29_ _ ?_)
                refine WC.seq fun Fh30_ h30_ => ?_
                refine WC.block ?_
                refine WC.seq fun Fh31_ h31_ => ?_
                refine WC.region ?_
                refine RG.op _ _ rfl rfl (o_move (.v _) rfl) ?_
                refine RG.op _ _ rfl rfl (o_ixn_M j rfl rfl Try.underlying55 (sz_of Ty.inf4) (by first | omega | exact ubyte _ | (simp only [LS] <;> omega)) (by first | omega | exact ubyte _ | (simp only [LS] <;> omega))) ?_
                refine RG.op _ _ rfl rfl (o_load_adr rfl Try.underlying4 rfl rfl) ?_
                refine RG.op _ _ rfl rfl (o_assign (.v _) rfl) ?_
                refine RG.op _ _ rfl rfl (o_assign (.v _) rfl) ?_
                refine RG.nil (h31_ _ ?_)
                refine WC.seq fun Fh32_ h32_ => ?_
                refine WC.region ?_
                refine RG.op _ _ rfl rfl (o_move (.v _) rfl) ?_
                refine RG.op _ _ rfl rfl (o_not rfl) ?_
                refine RG.nil (h32_ _ ?_)
                refine WC.cond _ rfl (fun c21 => ?_) (fun c21 => ?_)
                ·
                  have p21 := c21
                  try simp only [CN] at p21
                  have hbn : ¬ (h.1[j]'hjl) = true := by rw [show _ = false from p21]; decide
                  have hclt := cntF_lt hjl hbn
                  have hd0 : (m.1.drop (cntF (h.1.take j)))[0]'(by omega) = m.1.getD (cntF (h.1.take j)) z0 := by rw [List.getElem_drop, gv_at]; rfl
                  have hdd : (m.1.drop (cntF (h.1.take j))).drop 1 = m.1.drop (cntF (h.1.take (j + 1))) := by rw [List.drop_drop, cntF_take hjl, if_neg hbn]
                  refine WC.seq fun Fh33_ h33_ => ?_
                  refine WC.region ?_
                  refine RG.op _ _ rfl rfl (o_move (.own _ _ _ _ _) rfl) ?_
                  refine RG.op _ _ rfl rfl (o_move (.v _) rfl) ?_
                  refine RG.op _ _ rfl rfl (o_move (.rd _ _) rfl) ?_
                  refine RG.op _ _ rfl rfl (o_ixn_L 0 vc_len rfl rfl rfl Try.underlying22 (sz_of Ty.inf36) (by first | omega | exact ubyte _ | (simp only [LS] <;> omega)) (by first | omega | exact ubyte _ | (simp only [LS] <;> omega))) ?_
                  refine RG.op _ _ rfl rfl (o_load_adr_L (xs := [_, _, _]) rfl Try.underlying36 rfl (sz_of Ty.inf36) rfl) ?_
                  refine RG.op _ _ rfl rfl (o_ixn_own j rfl rfl Try.underlying22 (sz_of Ty.inf36) (by omega) (by omega)) ?_
                  refine RG.op _ _ rfl rfl (o_store (d := .agg [_, _, _]) rfl rfl rfl rfl (sz_of Ty.inf36) (by show 0 + j * 3 + 3 ≤ (List.flatMap vc _).length; rw [flen, List.length_append, hkl2, List.length_replicate]; omega) rfl) ?_
                  refine RG.nil (h33_ _ ?_)
                  refine WC.region ?_
                  refine RG.op _ _ rfl rfl (o_move (.rd _ _) rfl) ?_
                  refine RG.op _ _ rfl rfl (o_dropL 1 vc_len rfl rfl Try.underlying22 (sz_of Ty.inf36) (by first | omega | exact ubyte _ | (simp only [LS] <;> omega)) (by first | omega | exact ubyte _ | (simp only [LS] <;> omega))) ?_
                  refine RG.op _ _ rfl rfl (o_assign (.rd _ _) rfl) ?_
                  refine RG.nil (h30_ _ ?_)
                  refine WC.region ?_
                  refine RG.op _ _ rfl rfl (o_add rfl rfl (by first | omega | exact ubyte _ | (simp only [LS] <;> omega)) (by first | omega | exact ubyte _ | (simp only [LS] <;> omega))) ?_
                  refine RG.op _ _ rfl rfl (o_move (.v _) rfl) ?_
                  refine RG.nil (Exists.intro (j + 1) ⟨by first | omega | (simp only [LS] <;> omega), by first | omega | (simp only [LS] <;> omega), ?_⟩)
                  exact .mk' ⟨⟨rfl, .v _⟩, ⟨congrArg (fun q : List Val => rdV q) hdd, .rd _ _⟩, trivial⟩ (by repeat (first | with_reducible exact same_refl _ _ | with_reducible refine same_updO (by with_unfolding_all exact rfl) ?_ | with_reducible refine same_updN ?_ | with_reducible refine same_updL (by with_unfolding_all exact rfl) ?_ | with_reducible refine same_forget (by with_unfolding_all exact rfl) ?_)) (congrArg (fun c => [_, c]) (tb_eq rfl (by rw [mergeK_succ, hgd, if_neg hbn, ← hd0]; exact fill_val hjn hkl2 _))) (by repeat (first | exact trivial | refine And.intro (Nat.le_refl _) ?_ | refine And.intro trivial ?_ | refine And.intro (by show _ ≤ _; (first | omega | (simp only [LS] <;> omega))) ?_)) (by repeat (first | exact trivial | refine And.intro (one_ok (.own _ _ _ _ _ (Nat.le_refl _))) ?_ | refine And.intro (okp (by repeat (first | exact pu_bytes _ | exact pu_nil | exact pu_vs rfl | exact pu_map (fun _ => .v _) _ | exact pu_vals _ | refine pu_app ?_ ?_ | refine pu_cons (by exact pu_of rfl) ?_))) ?_))
                ·
                  have p21 := c21
                  try simp only [CN] at p21
                  have hbt : (h.1[j]'hjl) = true := p21
                  have hdd : m.1.drop (cntF (h.1.take j)) = m.1.drop (cntF (h.1.take (j + 1))) := by rw [cntF_take hjl, if_pos hbt]; rfl
                  refine WC.skip (h30_ _ ?_)
                  refine WC.region ?_
                  refine RG.op _ _ rfl rfl (o_add rfl rfl (by first | omega | exact ubyte _ | (simp only [LS] <;> omega)) (by first | omega | exact ubyte _ | (simp only [LS] <;> omega))) ?_
                  refine RG.op _ _ rfl rfl (o_move (.v _) rfl) ?_
                  refine RG.nil (Exists.intro (j + 1) ⟨by first | omega | (simp only [LS] <;> omega), by first | omega | (simp only [LS] <;> omega), ?_⟩)
                  exact .mk' ⟨⟨rfl, .v _⟩, ⟨congrArg (fun q : List Val => rdV q) hdd, .rd _ _⟩, trivial⟩ (by repeat (first | with_reducible exact same_refl _ _ | with_reducible refine same_updO (by with_unfolding_all exact rfl) ?_ | with_reducible refine same_updN ?_ | with_reducible refine same_updL (by with_unfolding_all exact rfl) ?_ | with_reducible refine same_forget (by with_unfolding_all exact rfl) ?_)) (congrArg (fun c => [_, c]) (tb_eq rfl (by rw [mergeK_succ, hgd, if_pos hbt]; exact congrArg (List.flatMap vc) (fill_null hjn)))) (by repeat (first | exact trivial | refine And.intro (Nat.le_refl _) ?_ | refine And.intro trivial ?_ | refine And.intro (by show _ ≤ _; (first | omega | (simp only [LS] <;> omega))) ?_)) (by repeat (first | exact trivial | refine And.intro (one_ok (.own _ _ _ _ _ (Nat.le_refl _))) ?_ | refine And.intro (okp (by repeat (first | exact pu_bytes _ | exact pu_nil | exact pu_vs rfl | exact pu_map (fun _ => .v _) _ | exact pu_vals _ | refine pu_app ?_ ?_ | refine pu_cons (by exact pu_of rfl) ?_))) ?_))
              ·
                have p19 := c19
                try simp only [CN] at p19
                refine WC.exit (h24_ _ ?_)
                refine WC.seq fun Fh34_ h34_ => ?_
                refine WC.region ?_
                refine RG.op _ _ rfl rfl (o_move (.own _ _ _ _ _) rfl) ?_
                refine RG.op _ _ rfl rfl (o_assign (.own _ _ _ _ _) rfl) ?_
                refine RG.op _ _ rfl rfl (o_assign (.v _) rfl) ?_
                refine RG.nil (h34_ _ ?_)
                refine WC.ret ?_
                exact Ends.r2 rfl (.tmp _ (.own _ _ _ _ _) rfl) (.tmp _ (.v _) rfl) (.tb rfl (by repeat (first | exact pu_bytes _ | exact pu_nil | exact pu_vs rfl | exact pu_map (fun _ => .v _) _ | exact pu_vals _ | refine pu_app ?_ ?_ | refine pu_cons (by exact pu_of rfl) ?_))) (.v _) (by rw [getC_ok hh hz0 hm hz1]; have e : j = n := (by omega); subst e; exact congrArg (fun c => D.tup [c, I64 0]) (rd_eq (mergeK_len _ _ _).symm (by rw [Nat.sub_self]; simp)))
end Go.Proofs.Ytpdjcfhmdeeikaa
namespace Go.Proofs.Ytpdjcfhmdeeikaa
open Go.RowKit Go.DL

theorem cget_c (c : UInt8) (b : List UInt8) (n : Int) (hb : b.length ≤ 10995116277760) : Fun Try.prog 16 [B8 c, rdB b, I64 n] (· = VL (getCol c b n)) := by
  unfold getCol
  split
  · rename_i h
    have := cgetP_c c b n.toNat h.1 hb (by omega)
    rwa [show ((n.toNat : Nat) : Int) = n by omega] at this
  · rename_i h; exact cgetN_c c b n h
end Go.Proofs.Ytpdjcfhmdeeikaa
namespace Go.Proofs.Ytpdjcfhmdeeikaa
open Go.RowKit Go.DL

abbrev exC : List Val := [⟨3, 0, [97]⟩, ⟨3, 0, [98]⟩, ⟨3, 0, [97]⟩, z0]
theorem exC_put : colP 3 exC = some [8, 2, 1, 97, 1, 98, 0, 1, 0] := by
  have h1 : colM 3 exC = true := by decide +kernel
  have h2 : bitsM (nuB exC) = [8] := by decide +kernel
  have h3 : tsM (mks exC) = [[97], [98], [97]] := by decide +kernel
  have h4 : wordsF ([[97], [98], [97]] : List Txt) = [[97], [98]] := by decide +kernel
  rw [colP_ok h1]
  unfold colB
  rw [h2]
  show some ([8] ++ txM (tsM (mks exC))) = _
  rw [h3]
  unfold txM
  rw [h4]
  have w1 : whM [[97], [98]] [97] = 0 := by decide
  have w2 : whM [[97], [98]] [98] = 1 := by decide
  simp only [wordsB, whB, wB, List.flatMap_cons, List.flatMap_nil, w1, w2, List.length_cons, List.length_nil]
  rw [encB_small (u := 0 + 1 + 1) (by omega), encB_small (u := 0 + 1) (by omega), encB_small (u := 0) (by omega)]
  rfl
theorem cputx_c : Fun Try.prog 12 [B8 3, rdV exC] (· = .tup [rdB [8, 2, 1, 97, 1, 98, 0, 1, 0], I64 0]) := by
  have h := cput_c 3 exC (by decide)
  rw [exC_put] at h
  exact h
theorem getX : getCol 2 [2, 1, 20, 1, 0] 3 = ([⟨2, 10, []⟩, z0, ⟨2, 20, []⟩], 0) := by decide +kernel
theorem cgetx_c : Fun Try.prog 16 [B8 2, rdB [2, 1, 20, 1, 0], I64 3] (· = .tup [rdV [⟨2, 10, []⟩, z0, ⟨2, 20, []⟩], I64 0]) := by
  have h := cget_c 2 [2, 1, 20, 1, 0] 3 (by decide)
  rw [getX] at h
  exact h
set_option maxRecDepth 20000 in
set_option maxHeartbeats 4000000 in
theorem puts6_c : Fun Try.prog 15 [] (· = Bo true) := by
  refine Fun.of Try.func15 rfl (Nat.le_of_ble_eq_true rfl) fun C => ?_
  refine WC.seq fun Fh1_ h1_ => ?_
  refine WC.region ?_
  refine RG.op _ _ rfl rfl (o_assign (.v _) rfl) ?_
  refine RG.nil (h1_ _ ?_)
  refine WC.seq fun Fh2_ h2_ => ?_
  refine WC.region ?_
  refine RG.op _ _ rfl rfl (o_build (cs := [(B8 3), I64 0, (S ([97] : List UInt8))]) Try.underlying36 Ty.inf36 (Ty.pl36 Try.underlying36) rfl) ?_
  refine RG.op _ _ rfl rfl (o_alloc (z_of Ty.inf36) rfl) ?_
  refine RG.op _ _ rfl rfl (o_store (d := (.agg [_, _, _])) rfl rfl rfl rfl (sz_of Ty.inf36) (Nat.le_of_ble_eq_true rfl) rfl) ?_
  refine RG.nil (h2_ _ ?_)
  refine WC.seq fun Fh3_ h3_ => ?_
  refine WC.region ?_
  refine RG.op _ _ rfl rfl (o_build (cs := [(B8 3), I64 0, (S ([98] : List UInt8))]) Try.underlying36 Ty.inf36 (Ty.pl36 Try.underlying36) rfl) ?_
  refine RG.op _ _ rfl rfl (o_alloc (z_of Ty.inf36) rfl) ?_
  refine RG.op _ _ rfl rfl (o_store (d := (.agg [_, _, _])) rfl rfl rfl rfl (sz_of Ty.inf36) (Nat.le_of_ble_eq_true rfl) rfl) ?_
  refine RG.nil (h3_ _ ?_)
  refine WC.seq fun Fh4_ h4_ => ?_
  refine WC.region ?_
  refine RG.op _ _ rfl rfl (o_load_ptr_L (xs := [_, _, _]) rfl Try.underlying36 rfl (sz_of Ty.inf36) rfl rfl rfl rfl) ?_
  refine RG.op _ _ rfl rfl (o_load_ptr_L (xs := [_, _, _]) rfl Try.underlying36 rfl (sz_of Ty.inf36) rfl rfl rfl rfl) ?_
  refine RG.op _ _ rfl rfl (o_load_ptr_L (xs := [_, _, _]) rfl Try.underlying36 rfl (sz_of Ty.inf36) rfl rfl rfl rfl) ?_
  refine RG.op _ _ rfl rfl (o_build (cs := [B8 0, I64 0, S []]) Try.underlying36 Ty.inf36 (Ty.pl36 Try.underlying36) rfl) ?_
  refine RG.op _ _ rfl rfl (o_litP (cs := [_, _, _, _, _, _, _, _, _, _, _, _]) Try.underlying22 Ty.inf36 rfl rfl rfl rfl (by repeat (first | exact pu_bytes _ | exact pu_nil | exact pu_vs rfl | exact pu_map (fun _ => .v _) _ | exact pu_vals _ | refine pu_app ?_ ?_ | refine pu_cons (by exact pu_of rfl) ?_))) ?_
  refine RG.op _ _ rfl rfl (o_call Ty.cal12 cputx_c ⟨.inl rfl, .inl rfl, trivial⟩ (by exact pua rfl)) ?_
  refine RG.op _ _ rfl rfl (o_move (.tup _) rfl) ?_
  refine RG.op _ _ rfl rfl (o_extract rfl rfl) ?_
  refine RG.op _ _ rfl rfl (o_extract rfl rfl) ?_
  refine RG.op _ _ rfl rfl (o_assign (.rd _ _) rfl) ?_
  refine RG.op _ _ rfl rfl (o_assign (.v _) rfl) ?_
  refine RG.nil (h4_ _ ?_)
  refine WC.seq fun Fh5_ h5_ => ?_
  refine WC.region ?_
  refine RG.op _ _ rfl rfl (o_litP (cs := [(B8 2), (B8 1), (B8 20), (B8 1), (B8 0)]) Try.underlying24 Ty.inf5 rfl rfl rfl rfl (by repeat (first | exact pu_bytes _ | exact pu_nil | exact pu_vs rfl | exact pu_map (fun _ => .v _) _ | exact pu_vals _ | refine pu_app ?_ ?_ | refine pu_cons (by exact pu_of rfl) ?_))) ?_
  refine RG.op _ _ rfl rfl (o_call Ty.cal16 cgetx_c ⟨.inl rfl, .inl rfl, .inl rfl, trivial⟩ (by exact pua rfl)) ?_
  refine RG.op _ _ rfl rfl (o_move (.tup _) rfl) ?_
  refine RG.op _ _ rfl rfl (o_extract rfl rfl) ?_
  refine RG.op _ _ rfl rfl (o_extract rfl rfl) ?_
  refine RG.op _ _ rfl rfl (o_assign (.rd _ _) rfl) ?_
  refine RG.op _ _ rfl rfl (o_assign (.v _) rfl) ?_
  refine RG.nil (h5_ _ ?_)
  refine WC.seq fun Fh6_ h6_ => ?_
  refine WC.region ?_
  refine RG.op _ _ rfl rfl (o_move (.v _) rfl) ?_
  refine RG.op _ _ rfl rfl (o_eqI rfl rfl) ?_
  refine RG.op _ _ rfl rfl (o_move (.v _) rfl) ?_
  refine RG.opg1 _ _ _ _ _ rfl rfl rfl rfl rfl (fun hb => o_move (.rd _ _) rfl) ?_
  refine RG.opg1 _ _ _ _ _ rfl rfl rfl rfl rfl (fun hb => o_str_rd (gdT hb) Try.underlying24 Try.underlying5 Try.underlying9) ?_
  refine RG.opg1 _ _ _ _ _ rfl rfl rfl rfl rfl (fun hb => o_eqS' (m := ([8, 2, 1, 97, 1, 98, 0, 1, 0] : List UInt8)) (gdT hb) rfl) ?_
  refine RG.op _ _ rfl rfl (o_and _ _ rfl rfl rfl) ?_
  refine RG.op _ _ rfl rfl (o_move (.v _) rfl) ?_
  refine RG.opg1 _ _ _ _ _ rfl rfl rfl rfl rfl (fun hb => o_move (.v _) rfl) ?_
  refine RG.opg1 _ _ _ _ _ rfl rfl rfl rfl rfl (fun hb => o_eqI (gdT hb) rfl) ?_
  refine RG.op _ _ rfl rfl (o_and _ _ rfl rfl rfl) ?_
  refine RG.op _ _ rfl rfl (o_move (.v _) rfl) ?_
  refine RG.opg1 _ _ _ _ _ rfl rfl rfl rfl rfl (fun hb => o_move (.rd _ _) rfl) ?_
  refine RG.opg1 _ _ _ _ _ rfl rfl rfl rfl rfl (fun hb => o_len_rd (gdT hb) Try.underlying22) ?_
  refine RG.opg1 _ _ _ _ _ rfl rfl rfl rfl rfl (fun hb => o_eqI (gdT hb) rfl) ?_
  refine RG.op _ _ rfl rfl (o_and _ _ rfl rfl rfl) ?_
  refine RG.op _ _ rfl rfl (o_move (.v _) rfl) ?_
  refine RG.opg1 _ _ _ _ _ rfl rfl rfl rfl rfl (fun hb => o_move (.rd _ _) rfl) ?_
  refine RG.opg1 _ _ _ _ _ rfl rfl rfl rfl rfl (fun hb => o_ixn_LZ (⟨0, 0, []⟩ : Val) 0 vc_len rfl (gdT hb) rfl Try.underlying22 (sz_of Ty.inf36) (by first | omega | exact ubyte _ | (have hb' := hb; simp only [CN] at hb'; omega) | (simp only [LS] <;> omega) | (have hb' := hb; simp only [CN] at hb'; simp only [LS]; omega)) (by first | omega | exact ubyte _ | (have hb' := hb; simp only [CN] at hb'; omega) | (simp only [LS] <;> omega) | (have hb' := hb; simp only [CN] at hb'; simp only [LS]; omega))) ?_
  refine RG.opg1 _ _ _ _ _ rfl rfl rfl rfl rfl (fun hb => o_fld_adr (gdT hb) Try.underlying36 rfl (sz_of Ty.inf2) (by decide)) ?_
  refine RG.opg1 _ _ _ _ _ rfl rfl rfl rfl rfl (fun hb => o_load_adr (gdT hb) Try.underlying2 rfl rfl) ?_
  refine RG.opg1 _ _ _ _ _ rfl rfl rfl rfl rfl (fun hb => o_eqI (gdT hb) rfl) ?_
  refine RG.op _ _ rfl rfl (o_and _ _ rfl rfl rfl) ?_
  refine RG.op _ _ rfl rfl (o_move (.v _) rfl) ?_
  refine RG.opg1 _ _ _ _ _ rfl rfl rfl rfl rfl (fun hb => o_move (.rd _ _) rfl) ?_
  refine RG.opg1 _ _ _ _ _ rfl rfl rfl rfl rfl (fun hb => o_ixn_LZ (⟨0, 0, []⟩ : Val) 1 vc_len rfl (gdT hb) rfl Try.underlying22 (sz_of Ty.inf36) (by first | omega | exact ubyte _ | (have hb' := hb; simp only [CN] at hb'; omega) | (simp only [LS] <;> omega) | (have hb' := hb; simp only [CN] at hb'; simp only [LS]; omega)) (by first | omega | exact ubyte _ | (have hb' := hb; simp only [CN] at hb'; omega) | (simp only [LS] <;> omega) | (have hb' := hb; simp only [CN] at hb'; simp only [LS]; omega))) ?_
  refine RG.opg1 _ _ _ _ _ rfl rfl rfl rfl rfl (fun hb => o_load_adr_L (xs := [_, _, _]) (gdT hb) Try.underlying36 rfl (sz_of Ty.inf36) rfl) ?_
  refine RG.opg1 _ _ _ _ _ rfl rfl rfl rfl rfl (fun hb => o_build (cs := [B8 0, I64 0, S []]) Try.underlying36 Ty.inf36 (Ty.pl36 Try.underlying36) rfl) ?_
  refine RG.opg1 _ _ _ _ _ rfl rfl rfl rfl rfl (fun hb => o_eqV Ty.fs36 (gdT hb) (gdT hb)) ?_
  refine RG.op _ _ rfl rfl (o_and _ _ rfl rfl rfl) ?_
  refine RG.op _ _ rfl rfl (o_move (.v _) rfl) ?_
  refine RG.opg1 _ _ _ _ _ rfl rfl rfl rfl rfl (fun hb => o_move (.rd _ _) rfl) ?_
  refine RG.opg1 _ _ _ _ _ rfl rfl rfl rfl rfl (fun hb => o_ixn_LZ (⟨0, 0, []⟩ : Val) 2 vc_len rfl (gdT hb) rfl Try.underlying22 (sz_of Ty.inf36) (by first | omega | exact ubyte _ | (have hb' := hb; simp only [CN] at hb'; omega) | (simp only [LS] <;> omega) | (have hb' := hb; simp only [CN] at hb'; simp only [LS]; omega)) (by first | omega | exact ubyte _ | (have hb' := hb; simp only [CN] at hb'; omega) | (simp only [LS] <;> omega) | (have hb' := hb; simp only [CN] at hb'; simp only [LS]; omega))) ?_
  refine RG.opg1 _ _ _ _ _ rfl rfl rfl rfl rfl (fun hb => o_load_adr_L (xs := [_, _, _]) (gdT hb) Try.underlying36 rfl (sz_of Ty.inf36) rfl) ?_
  refine RG.opg1 _ _ _ _ _ rfl rfl rfl rfl rfl (fun hb => o_build (cs := [(B8 2), (.v _), S []]) Try.underlying36 Ty.inf36 (Ty.pl36 Try.underlying36) rfl) ?_
  refine RG.opg1 _ _ _ _ _ rfl rfl rfl rfl rfl (fun hb => o_eqV Ty.fs36 (gdT hb) (gdT hb)) ?_
  refine RG.op _ _ rfl rfl (o_and _ _ rfl rfl rfl) ?_
  refine RG.op _ _ rfl rfl (o_assign (.v _) rfl) ?_
  refine RG.nil (h6_ _ ?_)
  refine WC.ret ?_
  exact Ends.r1 rfl (.tmp _ (.v _) rfl) (.v _) (rfl)
def long6 (l : List Val) : Bool := decide (500 < l.length) || l.any fun v => decide (300 < v.t.length)
set_option maxHeartbeats 4000000 in
theorem long6_c (l : List Val) (h2 : l.length ≤ 9223372036854775807) : Fun Try.prog 11 [rdV l] (· = Bo (long6 l)) := by
  refine Fun.of Try.func11 rfl (Nat.le_of_ble_eq_true rfl) fun C => ?_
  refine WC.seq fun Fh1_ h1_ => ?_
  refine WC.region ?_
  refine RG.op _ _ rfl rfl (o_assign (.v _) rfl) ?_
  refine RG.nil (h1_ _ ?_)
  refine WC.seq fun Fh2_ h2_ => ?_
  refine WC.seq fun Fh3_ h3_ => ?_
  refine WC.region ?_
  refine RG.op _ _ rfl rfl (o_move (.rd _ _) rfl) ?_
  refine RG.op _ _ rfl rfl (o_len_rd rfl Try.underlying22) ?_
  refine RG.op _ _ rfl rfl (o_gtI rfl rfl) ?_
  refine RG.nil (h3_ _ ?_)
  refine WC.cond _ rfl (fun c1 => ?_) (fun c1 => ?_)
  ·
    have p1 := c1
    try simp only [CN] at p1
    refine WC.seq fun Fh4_ h4_ => ?_
    refine WC.region ?_
    refine RG.op _ _ rfl rfl (o_assign (.v _) rfl) ?_
    refine RG.nil (h4_ _ ?_)
    refine WC.ret ?_
    exact Ends.r1 rfl (.tmp _ (.v _) rfl) (.v _) (congrArg Bo (by unfold long6; rw [decide_eq_true (show 500 < l.length by omega)]; rfl))
  ·
    have p1 := c1
    try simp only [CN] at p1
    refine WC.skip (h2_ _ ?_)
    refine WC.seq fun Fh5_ h5_ => ?_
    refine WC.seq fun Fh6_ h6_ => ?_
    refine WC.region ?_
    refine RG.op _ _ rfl rfl (o_assign (.v _) rfl) ?_
    refine RG.nil (h6_ _ ?_)
    refine WC.block ?_
    refine WC.loopU [2, 3, 7, 8, 9, 10, 11, 12, 13, 14, 15, 16, 17, 18, 19] (fun (k : Nat) => [(3, I64 ((k : Nat) : Int))]) (fun (k : Nat) => []) (fun (k : Nat) => k ≤ l.length ∧ (l.take k).any (fun v => decide (300 < v.t.length)) = false) (fun (k : Nat) => l.length - k) 0 ⟨by omega, rfl⟩ ?lpa7_ ?lpb8_
    case lpa7_ =>
      exact .mk' ⟨⟨rfl, .v _⟩, trivial⟩ (same_refl _ _) (rfl) (by repeat (first | exact trivial | refine And.intro (Nat.le_refl _) ?_ | refine And.intro trivial ?_ | refine And.intro (by show _ ≤ _; (first | omega | (simp only [LS] <;> omega))) ?_)) (by repeat (first | exact trivial | refine And.intro (one_ok (.own _ _ _ _ _ (Nat.le_refl _))) ?_ | refine And.intro (okp (by repeat (first | exact pu_bytes _ | exact pu_nil | exact pu_vs rfl | exact pu_map (fun _ => .v _) _ | exact pu_vals _ | refine pu_app ?_ ?_ | refine pu_cons (by exact pu_of rfl) ?_))) ?_))
    case lpb8_ =>
      rintro k hI
      have hk := hI.1
      have ha := hI.2
      refine WC.seq fun Fh9_ h9_ => ?_
      refine WC.seq fun Fh10_ h10_ => ?_
      refine WC.region ?_
      refine RG.op _ _ rfl rfl (o_move (.v _) rfl) ?_
      refine RG.op _ _ rfl rfl (o_move (.rd _ _) rfl) ?_
      refine RG.op _ _ rfl rfl (o_len_rd rfl Try.underlying22) ?_
      refine RG.op _ _ rfl rfl (o_ltI rfl rfl) ?_
      refine RG.nil (h10_ _ ?_)
      refine WC.cond _ rfl (fun c4 => ?_) (fun c4 => ?_)
      ·
        have p4 := c4
        try simp only [CN] at p4
        refine WC.skip (h9_ _ ?_)
        refine WC.seq fun Fh11_ h11_ => ?_
        refine WC.block ?_
        refine WC.seq fun Fh12_ h12_ => ?_
        refine WC.region ?_
        refine RG.op _ _ rfl rfl (o_move (.rd _ _) rfl) ?_
        refine RG.op _ _ rfl rfl (o_move (.v _) rfl) ?_
        refine RG.op _ _ rfl rfl (o_ixn_L k vc_len rfl rfl rfl Try.underlying22 (sz_of Ty.inf36) (by first | omega | exact ubyte _ | (simp only [LS] <;> omega)) (by first | omega | exact ubyte _ | (simp only [LS] <;> omega))) ?_
        refine RG.op _ _ rfl rfl (o_fld_adr rfl Try.underlying36 rfl (sz_of Ty.inf9) (by decide)) ?_
        refine RG.op _ _ rfl rfl (o_load_adr rfl Try.underlying9 rfl rfl) ?_
        refine RG.op _ _ rfl rfl (o_lenS rfl Try.underlying9) ?_
        refine RG.op _ _ rfl rfl (o_gtI rfl rfl) ?_
        refine RG.nil (h12_ _ ?_)
        refine WC.cond _ rfl (fun c6 => ?_) (fun c6 => ?_)
        ·
          have p6 := c6
          try simp only [CN] at p6
          refine WC.seq fun Fh13_ h13_ => ?_
          refine WC.region ?_
          refine RG.op _ _ rfl rfl (o_assign (.v _) rfl) ?_
          refine RG.nil (h13_ _ ?_)
          refine WC.ret ?_
          exact Ends.r1 rfl (.tmp _ (.v _) rfl) (.v _) (congrArg Bo (by unfold long6; rw [any_stop (l := l) (k := k) (f := fun v => decide (300 < v.t.length)) (by omega) (decide_eq_true (by omega)), Bool.or_true]))
        ·
          have p6 := c6
          try simp only [CN] at p6
          refine WC.skip (h11_ _ ?_)
          refine WC.region ?_
          refine RG.op _ _ rfl rfl (o_move (.v _) rfl) ?_
          refine RG.op _ _ rfl rfl (o_add rfl rfl (by first | omega | exact ubyte _ | (simp only [LS] <;> omega)) (by first | omega | exact ubyte _ | (simp only [LS] <;> omega))) ?_
          refine RG.op _ _ rfl rfl (o_assign (.v _) rfl) ?_
          refine RG.nil (Exists.intro (k + 1) ⟨⟨by omega, any_step (by omega) hI.2 (decide_eq_false (by omega))⟩, by first | omega | (simp only [LS] <;> omega), ?_⟩)
          exact .mk' ⟨⟨rfl, .v _⟩, trivial⟩ (by repeat (first | with_reducible exact same_refl _ _ | with_reducible refine same_updO (by with_unfolding_all exact rfl) ?_ | with_reducible refine same_updN ?_ | with_reducible refine same_updL (by with_unfolding_all exact rfl) ?_ | with_reducible refine same_forget (by with_unfolding_all exact rfl) ?_)) (rfl) (by repeat (first | exact trivial | refine And.intro (Nat.le_refl _) ?_ | refine And.intro trivial ?_ | refine And.intro (by show _ ≤ _; (first | omega | (simp only [LS] <;> omega))) ?_)) (by repeat (first | exact trivial | refine And.intro (one_ok (.own _ _ _ _ _ (Nat.le_refl _))) ?_ | refine And.intro (okp (by repeat (first | exact pu_bytes _ | exact pu_nil | exact pu_vs rfl | exact pu_map (fun _ => .v _) _ | exact pu_vals _ | refine pu_app ?_ ?_ | refine pu_cons (by exact pu_of rfl) ?_))) ?_))
      ·
        have p4 := c4
        try simp only [CN] at p4
        refine WC.exit (h5_ _ ?_)
        refine WC.seq fun Fh14_ h14_ => ?_
        refine WC.region ?_
        refine RG.op _ _ rfl rfl (o_assign (.v _) rfl) ?_
        refine RG.nil (h14_ _ ?_)
        refine WC.ret ?_
        exact Ends.r1 rfl (.tmp _ (.v _) rfl) (.v _) (congrArg Bo (by have e : k = l.length := (by omega); subst e; rw [List.take_length] at ha; unfold long6; rw [decide_eq_false (show ¬ 500 < l.length by omega), ha]; rfl))
theorem long6_sz {l : List Val} (h : long6 l = false) : l.length ≤ 500 ∧ szM l ≤ 305500 ∧ ∀ v ∈ l, v.t.length ≤ 300 := by
  unfold long6 at h
  rw [Bool.or_eq_false_iff, decide_eq_false_iff_not, List.any_eq_false] at h
  have ht : ∀ v ∈ l, v.t.length ≤ 300 := fun v hv => by have := h.2 v hv; rw [decide_eq_true_eq] at this; omega
  have h3 : szM l ≤ l.length * 611 := by
    have h1 := h.1
    clear h h1
    induction l with
    | nil => simp [szM]
    | cons v l ih =>
      have h1 := ht v (by simp)
      have h2 := ih fun w hw => ht w (by simp [hw])
      simp only [szM, List.map_cons, List.sum_cons, List.length_cons] at *; omega
  exact ⟨by omega, by omega, ht⟩
end Go.Proofs.Ytpdjcfhmdeeikaa
namespace Go.Proofs.Ytpdjcfhmdeeikaa
open Go.RowKit Go.DL

section
variable {C : Ctx} {env : Nat → D} {H : Heap} {dst : Option Nat} {ty : TypeId} {pos : String} {after : Array Edge} {gu : Option (Nat × Bool)} {X Y : Operand}
theorem cmp_run (a b : List UInt8) (w : World) : (callFunc 72 #[.string (strB a), .string (strB b)]).run Try.prog w = .ok (.value (.int .i64 (Lib.compareBytes a b))) w := by
  rw [run_callFunc_extern (fn := Try.f72) (e := Extern.BytealgCompare.compare) Try.func72 (by kernel_rfl) (by kernel_rfl) (by kernel_rfl) (by kernel_rfl), Lib.run_compareString]; rfl
theorem o_cmpS {a b : List UInt8} {ats : Array TypeId} (hx : ev env X = S a) (hy : ev env Y = S b) : OpD Try.prog C ⟨dst, .call { callee := .value (.func 72), args := #[X, Y], argTypes := ats }, ty, pos, after, gu⟩ env H (I64 (Lib.compareBytes a b)) H := by
  refine OpD.same fun K β ac w _ h _ => ⟨.int .i64 (Lib.compareBytes a b), ?_, .v _ _, .v _⟩
  have h1 := h X (by simp [Op.operands, Call.operands])
  have h2 := h Y (by simp [Op.operands, Call.operands])
  rw [hx] at h1; rw [hy] at h2
  have e0 : ac.eval (.func 72) = .func (.func 72) #[] #[] := rfl
  simp [execOp, resolve, e0, Deferred.ofValue, invoke, h1.v_inv, h2.v_inv, cmp_run]
end
set_option maxHeartbeats 4000000 in
theorem cmpS_c (a b : List UInt8) : Fun Try.prog 69 [S a, S b] (· = I64 (Lib.compareBytes a b)) := by
  refine Fun.of Try.func69 rfl (Nat.le_of_ble_eq_true rfl) fun C => ?_
  refine WC.seq fun Fh1_ h1_ => ?_
  refine WC.region ?_
  refine RG.op _ _ rfl rfl (o_assign (.v _) rfl) ?_
  refine RG.nil (h1_ _ ?_)
  refine WC.seq fun Fh2_ h2_ => ?_
  refine WC.region ?_
  refine RG.op _ _ rfl rfl (o_move (.v _) rfl) ?_
  refine RG.op _ _ rfl rfl (o_move (.v _) rfl) ?_
  refine RG.op _ _ rfl rfl (o_cmpS rfl rfl) ?_
  refine RG.op _ _ rfl rfl (o_assign (.v _) rfl) ?_
  refine RG.nil (h2_ _ ?_)
  refine WC.ret ?_
  exact Ends.r1 rfl (.tmp _ (.v _) rfl) (.v _) (rfl)
set_option maxHeartbeats 4000000 in
theorem scmp_c (a b : List UInt8) : Fun Try.prog 62 [S a, S b] (· = I64 (Lib.compareBytes a b)) := by
  refine Fun.of Try.func62 rfl (Nat.le_of_ble_eq_true rfl) fun C => ?_
  refine WC.seq fun Fh1_ h1_ => ?_
  refine WC.region ?_
  refine RG.op _ _ rfl rfl (o_assign (.v _) rfl) ?_
  refine RG.nil (h1_ _ ?_)
  refine WC.seq fun Fh2_ h2_ => ?_
  refine WC.region ?_
  refine RG.op _ _ rfl rfl (o_move (.v _) rfl) ?_
  refine RG.op _ _ rfl rfl (o_move (.v _) rfl) ?_
  refine RG.op _ _ rfl rfl (o_call Ty.cal69 (cmpS_c _ _) ⟨.inl rfl, .inl rfl, trivial⟩ (by exact pua rfl)) ?_
  refine RG.op _ _ rfl rfl (o_assign (.v _) rfl) ?_
  refine RG.nil (h2_ _ ?_)
  refine WC.ret ?_
  exact Ends.r1 rfl (.tmp _ (.v _) rfl) (.v _) (rfl)
set_option maxHeartbeats 4000000 in
theorem nanB_c (a : UInt8) : Fun Try.prog 67 [B8 a] (· = Bo false) := by
  refine Fun.of Try.func67 rfl (Nat.le_of_ble_eq_true rfl) fun C => ?_
  refine WC.seq fun Fh1_ h1_ => ?_
  refine WC.region ?_
  refine RG.op _ _ rfl rfl (o_assign (.v _) rfl) ?_
  refine RG.nil (h1_ _ ?_)
  refine WC.seq fun Fh2_ h2_ => ?_
  refine WC.region ?_
  refine RG.op _ _ rfl rfl (o_move (.v _) rfl) ?_
  refine RG.op _ _ rfl rfl (o_move (.v _) rfl) ?_
  refine RG.op _ _ rfl rfl (o_neB rfl rfl) ?_
  refine RG.op _ _ rfl rfl (o_assign (.v _) rfl) ?_
  refine RG.nil (h2_ _ ?_)
  refine WC.ret ?_
  exact Ends.r1 rfl (.tmp _ (.v _) rfl) (.v _) (congrArg Bo (by simp))
set_option maxHeartbeats 4000000 in
theorem nanI_c (a : Int) : Fun Try.prog 68 [I64 a] (· = Bo false) := by
  refine Fun.of Try.func68 rfl (Nat.le_of_ble_eq_true rfl) fun C => ?_
  refine WC.seq fun Fh1_ h1_ => ?_
  refine WC.region ?_
  refine RG.op _ _ rfl rfl (o_assign (.v _) rfl) ?_
  refine RG.nil (h1_ _ ?_)
  refine WC.seq fun Fh2_ h2_ => ?_
  refine WC.region ?_
  refine RG.op _ _ rfl rfl (o_move (.v _) rfl) ?_
  refine RG.op _ _ rfl rfl (o_move (.v _) rfl) ?_
  refine RG.op _ _ rfl rfl (o_neI rfl rfl) ?_
  refine RG.op _ _ rfl rfl (o_assign (.v _) rfl) ?_
  refine RG.nil (h2_ _ ?_)
  refine WC.ret ?_
  exact Ends.r1 rfl (.tmp _ (.v _) rfl) (.v _) (congrArg Bo (by simp))
def cmpI (a b : Int) : Int := if a < b then -1 else if b < a then 1 else 0
def cmpB (a b : UInt8) : Int := if a.toNat < b.toNat then -1 else if b.toNat < a.toNat then 1 else 0
set_option maxHeartbeats 4000000 in
theorem cmpB_c (a b : UInt8) : Fun Try.prog 60 [B8 a, B8 b] (· = I64 (cmpB a b)) := by
  refine Fun.of Try.func60 rfl (Nat.le_of_ble_eq_true rfl) fun C => ?_
  refine WC.seq fun Fh1_ h1_ => ?_
  refine WC.region ?_
  refine RG.op _ _ rfl rfl (o_assign (.v _) rfl) ?_
  refine RG.nil (h1_ _ ?_)
  refine WC.seq fun Fh2_ h2_ => ?_
  refine WC.region ?_
  refine RG.op _ _ rfl rfl (o_move (.v _) rfl) ?_
  refine RG.op _ _ rfl rfl (o_call Ty.cal67 (nanB_c _) ⟨.inl rfl, trivial⟩ (by exact pua rfl)) ?_
  refine RG.op _ _ rfl rfl (o_assign (.v _) rfl) ?_
  refine RG.nil (h2_ _ ?_)
  refine WC.seq fun Fh3_ h3_ => ?_
  refine WC.region ?_
  refine RG.op _ _ rfl rfl (o_move (.v _) rfl) ?_
  refine RG.op _ _ rfl rfl (o_call Ty.cal67 (nanB_c _) ⟨.inl rfl, trivial⟩ (by exact pua rfl)) ?_
  refine RG.op _ _ rfl rfl (o_assign (.v _) rfl) ?_
  refine RG.nil (h3_ _ ?_)
  refine WC.seq fun Fh4_ h4_ => ?_
  refine WC.seq fun Fh5_ h5_ => ?_
  refine WC.region ?_
  refine RG.op _ _ rfl rfl (o_move (.v _) rfl) ?_
  refine RG.nil (h5_ _ ?_)
  refine WC.cond _ rfl (fun c3 => ?_) (fun c3 => ?_)
  ·
    have p3 := c3
    try simp only [CN] at p3
    cases c3
  ·
    have p3 := c3
    try simp only [CN] at p3
    refine WC.skip (h4_ _ ?_)
    refine WC.seq fun Fh6_ h6_ => ?_
    refine WC.seq fun Fh7_ h7_ => ?_
    refine WC.region ?_
    refine RG.op _ _ rfl rfl (o_move (.v _) rfl) ?_
    refine RG.nil (h7_ _ ?_)
    refine WC.cond _ rfl (fun c7 => ?_) (fun c7 => ?_)
    ·
      have p7 := c7
      try simp only [CN] at p7
      cases c7
    ·
      have p7 := c7
      try simp only [CN] at p7
      refine WC.skip (h6_ _ ?_)
      refine WC.seq fun Fh8_ h8_ => ?_
      refine WC.seq fun Fh9_ h9_ => ?_
      refine WC.region ?_
      refine RG.op _ _ rfl rfl (o_move (.v _) rfl) ?_
      refine RG.op _ _ rfl rfl (o_move (.v _) rfl) ?_
      refine RG.op _ _ rfl rfl (o_ltB rfl rfl) ?_
      refine RG.nil (h9_ _ ?_)
      refine WC.cond _ rfl (fun c9 => ?_) (fun c9 => ?_)
      ·
        have p9 := c9
        try simp only [CN] at p9
        refine WC.seq fun Fh10_ h10_ => ?_
        refine WC.region ?_
        refine RG.op _ _ rfl rfl (o_assign (.v _) rfl) ?_
        refine RG.nil (h10_ _ ?_)
        refine WC.ret ?_
        exact Ends.r1 rfl (.tmp _ (.v _) rfl) (.v _) (congrArg I64 (by unfold cmpB; rw [if_pos p9]))
      ·
        have p9 := c9
        try simp only [CN] at p9
        refine WC.skip (h8_ _ ?_)
        refine WC.seq fun Fh11_ h11_ => ?_
        refine WC.seq fun Fh12_ h12_ => ?_
        refine WC.region ?_
        refine RG.op _ _ rfl rfl (o_move (.v _) rfl) ?_
        refine RG.op _ _ rfl rfl (o_move (.v _) rfl) ?_
        refine RG.op _ _ rfl rfl (o_gtB rfl rfl) ?_
        refine RG.nil (h12_ _ ?_)
        refine WC.cond _ rfl (fun c11 => ?_) (fun c11 => ?_)
        ·
          have p11 := c11
          try simp only [CN] at p11
          refine WC.seq fun Fh13_ h13_ => ?_
          refine WC.region ?_
          refine RG.op _ _ rfl rfl (o_assign (.v _) rfl) ?_
          refine RG.nil (h13_ _ ?_)
          refine WC.ret ?_
          exact Ends.r1 rfl (.tmp _ (.v _) rfl) (.v _) (congrArg I64 (by unfold cmpB; rw [if_neg (by omega), if_pos p11]))
        ·
          have p11 := c11
          try simp only [CN] at p11
          refine WC.skip (h11_ _ ?_)
          refine WC.seq fun Fh14_ h14_ => ?_
          refine WC.region ?_
          refine RG.op _ _ rfl rfl (o_assign (.v _) rfl) ?_
          refine RG.nil (h14_ _ ?_)
          refine WC.ret ?_
          exact Ends.r1 rfl (.tmp _ (.v _) rfl) (.v _) (congrArg I64 (by unfold cmpB; rw [if_neg (by omega), if_neg (by omega)]))
set_option maxHeartbeats 4000000 in
theorem cmpI_c (a b : Int) : Fun Try.prog 61 [I64 a, I64 b] (· = I64 (cmpI a b)) := by
  refine Fun.of Try.func61 rfl (Nat.le_of_ble_eq_true rfl) fun C => ?_
  refine WC.seq fun Fh1_ h1_ => ?_
  refine WC.region ?_
  refine RG.op _ _ rfl rfl (o_assign (.v _) rfl) ?_
  refine RG.nil (h1_ _ ?_)
  refine WC.seq fun Fh2_ h2_ => ?_
  refine WC.region ?_
  refine RG.op _ _ rfl rfl (o_move (.v _) rfl) ?_
  refine RG.op _ _ rfl rfl (o_call Ty.cal68 (nanI_c _) ⟨.inl rfl, trivial⟩ (by exact pua rfl)) ?_
  refine RG.op _ _ rfl rfl (o_assign (.v _) rfl) ?_
  refine RG.nil (h2_ _ ?_)
  refine WC.seq fun Fh3_ h3_ => ?_
  refine WC.region ?_
  refine RG.op _ _ rfl rfl (o_move (.v _) rfl) ?_
  refine RG.op _ _ rfl rfl (o_call Ty.cal68 (nanI_c _) ⟨.inl rfl, trivial⟩ (by exact pua rfl)) ?_
  refine RG.op _ _ rfl rfl (o_assign (.v _) rfl) ?_
  refine RG.nil (h3_ _ ?_)
  refine WC.seq fun Fh4_ h4_ => ?_
  refine WC.seq fun Fh5_ h5_ => ?_
  refine WC.region ?_
  refine RG.op _ _ rfl rfl (o_move (.v _) rfl) ?_
  refine RG.nil (h5_ _ ?_)
  refine WC.cond _ rfl (fun c3 => ?_) (fun c3 => ?_)
  ·
    have p3 := c3
    try simp only [CN] at p3
    cases c3
  ·
    have p3 := c3
    try simp only [CN] at p3
    refine WC.skip (h4_ _ ?_)
    refine WC.seq fun Fh6_ h6_ => ?_
    refine WC.seq fun Fh7_ h7_ => ?_
    refine WC.region ?_
    refine RG.op _ _ rfl rfl (o_move (.v _) rfl) ?_
    refine RG.nil (h7_ _ ?_)
    refine WC.cond _ rfl (fun c7 => ?_) (fun c7 => ?_)
    ·
      have p7 := c7
      try simp only [CN] at p7
      cases c7
    ·
      have p7 := c7
      try simp only [CN] at p7
      refine WC.skip (h6_ _ ?_)
      refine WC.seq fun Fh8_ h8_ => ?_
      refine WC.seq fun Fh9_ h9_ => ?_
      refine WC.region ?_
      refine RG.op _ _ rfl rfl (o_move (.v _) rfl) ?_
      refine RG.op _ _ rfl rfl (o_move (.v _) rfl) ?_
      refine RG.op _ _ rfl rfl (o_ltI rfl rfl) ?_
      refine RG.nil (h9_ _ ?_)
      refine WC.cond _ rfl (fun c9 => ?_) (fun c9 => ?_)
      ·
        have p9 := c9
        try simp only [CN] at p9
        refine WC.seq fun Fh10_ h10_ => ?_
        refine WC.region ?_
        refine RG.op _ _ rfl rfl (o_assign (.v _) rfl) ?_
        refine RG.nil (h10_ _ ?_)
        refine WC.ret ?_
        exact Ends.r1 rfl (.tmp _ (.v _) rfl) (.v _) (congrArg I64 (by unfold cmpI; rw [if_pos p9]))
      ·
        have p9 := c9
        try simp only [CN] at p9
        refine WC.skip (h8_ _ ?_)
        refine WC.seq fun Fh11_ h11_ => ?_
        refine WC.seq fun Fh12_ h12_ => ?_
        refine WC.region ?_
        refine RG.op _ _ rfl rfl (o_move (.v _) rfl) ?_
        refine RG.op _ _ rfl rfl (o_move (.v _) rfl) ?_
        refine RG.op _ _ rfl rfl (o_gtI rfl rfl) ?_
        refine RG.nil (h12_ _ ?_)
        refine WC.cond _ rfl (fun c11 => ?_) (fun c11 => ?_)
        ·
          have p11 := c11
          try simp only [CN] at p11
          refine WC.seq fun Fh13_ h13_ => ?_
          refine WC.region ?_
          refine RG.op _ _ rfl rfl (o_assign (.v _) rfl) ?_
          refine RG.nil (h13_ _ ?_)
          refine WC.ret ?_
          exact Ends.r1 rfl (.tmp _ (.v _) rfl) (.v _) (congrArg I64 (by unfold cmpI; rw [if_neg (by omega), if_pos (by omega)]))
        ·
          have p11 := c11
          try simp only [CN] at p11
          refine WC.skip (h11_ _ ?_)
          refine WC.seq fun Fh14_ h14_ => ?_
          refine WC.region ?_
          refine RG.op _ _ rfl rfl (o_assign (.v _) rfl) ?_
          refine RG.nil (h14_ _ ?_)
          refine WC.ret ?_
          exact Ends.r1 rfl (.tmp _ (.v _) rfl) (.v _) (congrArg I64 (by unfold cmpI; rw [if_neg (by omega), if_neg (by omega)]))
def orI : List Int → Int
  | [] => 0
  | x :: r => if x = 0 then orI r else x
set_option maxHeartbeats 4000000 in
theorem or_c (l : List Int) (hl : l.length ≤ 1000) : Fun Try.prog 59 [rdI l] (· = I64 (orI l)) := by
  refine Fun.of Try.func59 rfl (Nat.le_of_ble_eq_true rfl) fun C => ?_
  refine WC.seq fun Fh1_ h1_ => ?_
  refine WC.region ?_
  refine RG.op _ _ rfl rfl (o_assign (.v _) rfl) ?_
  refine RG.nil (h1_ _ ?_)
  refine WC.seq fun Fh2_ h2_ => ?_
  refine WC.region ?_
  refine RG.op _ _ rfl rfl (o_assign (.v _) rfl) ?_
  refine RG.nil (h2_ _ ?_)
  refine WC.seq fun Fh3_ h3_ => ?_
  refine WC.seq fun Fh4_ h4_ => ?_
  refine WC.region ?_
  refine RG.op _ _ rfl rfl (o_move (.rd _ _) rfl) ?_
  refine RG.op _ _ rfl rfl (o_len_rd rfl Try.underlying93) ?_
  refine RG.op _ _ rfl rfl (o_move (.v _) rfl) ?_
  refine RG.nil (h4_ _ ?_)
  refine WC.block ?_
  refine WC.loopU [2, 5, 8, 9, 10, 11, 12, 13, 14, 15, 16] (fun (k : Nat) => [(8, I64 ((k : Nat) : Int))]) (fun (k : Nat) => []) (fun (k : Nat) => k ≤ l.length ∧ orI l = orI (l.drop k)) (fun (k : Nat) => l.length - k) 0 ⟨Nat.zero_le _, rfl⟩ ?lpa5_ ?lpb6_
  case lpa5_ =>
    exact .mk' ⟨⟨rfl, .v _⟩, trivial⟩ (same_refl _ _) (rfl) (by repeat (first | exact trivial | refine And.intro (Nat.le_refl _) ?_ | refine And.intro trivial ?_ | refine And.intro (by show _ ≤ _; (first | omega | (simp only [LS] <;> omega))) ?_)) (by repeat (first | exact trivial | refine And.intro (one_ok (.own _ _ _ _ _ (Nat.le_refl _))) ?_ | refine And.intro (okp (by repeat (first | exact pu_bytes _ | exact pu_nil | exact pu_vs rfl | exact pu_map (fun _ => .v _) _ | exact pu_vals _ | refine pu_app ?_ ?_ | refine pu_cons (by exact pu_of rfl) ?_))) ?_))
  case lpb6_ =>
    rintro k hI
    have hk1 := hI.1
    have hk2 := hI.2
    refine WC.seq fun Fh7_ h7_ => ?_
    refine WC.region ?_
    refine RG.op _ _ rfl rfl (o_ltI rfl rfl) ?_
    refine RG.nil (h7_ _ ?_)
    refine WC.seq fun Fh8_ h8_ => ?_
    refine WC.cond _ rfl (fun c3 => ?_) (fun c3 => ?_)
    ·
      have p3 := c3
      try simp only [CN] at p3
      have hkl : k < l.length := by omega
      refine WC.skip (h8_ _ ?_)
      refine WC.seq fun Fh9_ h9_ => ?_
      refine WC.block ?_
      refine WC.seq fun Fh10_ h10_ => ?_
      refine WC.region ?_
      refine RG.op _ _ rfl rfl (o_ixn_M k rfl rfl Try.underlying93 (sz_of Ty.inf3) (by first | omega | exact ubyte _ | (simp only [LS] <;> omega)) (by first | omega | exact ubyte _ | (simp only [LS] <;> omega))) ?_
      refine RG.op _ _ rfl rfl (o_load_adr rfl Try.underlying3 rfl rfl) ?_
      refine RG.op _ _ rfl rfl (o_assign (.v _) rfl) ?_
      refine RG.nil (h10_ _ ?_)
      refine WC.seq fun Fh11_ h11_ => ?_
      refine WC.region ?_
      refine RG.op _ _ rfl rfl (o_move (.v _) rfl) ?_
      refine RG.op _ _ rfl rfl (o_move (.v _) rfl) ?_
      refine RG.op _ _ rfl rfl (o_neI rfl rfl) ?_
      refine RG.nil (h11_ _ ?_)
      refine WC.cond _ rfl (fun c5 => ?_) (fun c5 => ?_)
      ·
        have p5 := c5
        try simp only [CN] at p5
        refine WC.seq fun Fh12_ h12_ => ?_
        refine WC.region ?_
        refine RG.op _ _ rfl rfl (o_move (.v _) rfl) ?_
        refine RG.op _ _ rfl rfl (o_assign (.v _) rfl) ?_
        refine RG.nil (h12_ _ ?_)
        refine WC.ret ?_
        exact Ends.r1 rfl (.tmp _ (.v _) rfl) (.v _) (congrArg I64 (by rw [hk2, List.drop_eq_getElem_cons hkl, orI, if_neg (by omega)]))
      ·
        have p5 := c5
        try simp only [CN] at p5
        refine WC.skip (h9_ _ ?_)
        refine WC.region ?_
        refine RG.op _ _ rfl rfl (o_add rfl rfl (by first | omega | exact ubyte _ | (simp only [LS] <;> omega)) (by first | omega | exact ubyte _ | (simp only [LS] <;> omega))) ?_
        refine RG.op _ _ rfl rfl (o_move (.v _) rfl) ?_
        refine RG.nil (Exists.intro (k + 1) ⟨⟨by omega, by rw [hk2, List.drop_eq_getElem_cons hkl, orI, if_pos (by omega)]⟩, by first | omega | (simp only [LS] <;> omega), ?_⟩)
        exact .mk' ⟨⟨rfl, .v _⟩, trivial⟩ (by repeat (first | with_reducible exact same_refl _ _ | with_reducible refine same_updO (by with_unfolding_all exact rfl) ?_ | with_reducible refine same_updN ?_ | with_reducible refine same_updL (by with_unfolding_all exact rfl) ?_ | with_reducible refine same_forget (by with_unfolding_all exact rfl) ?_)) (rfl) (by repeat (first | exact trivial | refine And.intro (Nat.le_refl _) ?_ | refine And.intro trivial ?_ | refine And.intro (by show _ ≤ _; (first | omega | (simp only [LS] <;> omega))) ?_)) (by repeat (first | exact trivial | refine And.intro (one_ok (.own _ _ _ _ _ (Nat.le_refl _))) ?_ | refine And.intro (okp (by repeat (first | exact pu_bytes _ | exact pu_nil | exact pu_vs rfl | exact pu_map (fun _ => .v _) _ | exact pu_vals _ | refine pu_app ?_ ?_ | refine pu_cons (by exact pu_of rfl) ?_))) ?_))
    ·
      have p3 := c3
      try simp only [CN] at p3
      refine WC.exit (h3_ _ ?_)
      refine WC.seq fun Fh13_ h13_ => ?_
      refine WC.region ?_
      refine RG.op _ _ rfl rfl (o_move (.v _) rfl) ?_
      refine RG.op _ _ rfl rfl (o_assign (.v _) rfl) ?_
      refine RG.nil (h13_ _ ?_)
      refine WC.ret ?_
      exact Ends.r1 rfl (.tmp _ (.v _) rfl) (.v _) (congrArg I64 (by rw [hk2, List.drop_eq_nil_of_le (by omega)]; rfl))
def cmpV (a b : Val) : Int := orI [cmpB a.k b.k, cmpI a.i b.i, Lib.compareBytes a.t b.t]
set_option maxHeartbeats 4000000 in
theorem cmpV_c (a b : Val) : Fun Try.prog 51 [VD a, VD b] (· = I64 (cmpV a b)) := by
  refine Fun.of Try.func51 rfl (Nat.le_of_ble_eq_true rfl) fun C => ?_
  refine WC.seq fun Fh1_ h1_ => ?_
  refine WC.region ?_
  refine RG.op _ _ rfl rfl (o_box (d := .agg [_, _, _]) rfl rfl) ?_
  refine RG.op _ _ rfl rfl (o_box (d := .agg [_, _, _]) rfl rfl) ?_
  refine RG.op _ _ rfl rfl (o_assign (.v _) rfl) ?_
  refine RG.nil (h1_ _ ?_)
  refine WC.seq fun Fh2_ h2_ => ?_
  refine WC.frz 0 _ [(2, .adr (vc a))] rfl (by repeat (first | exact pu_bytes _ | exact pu_nil | exact pu_vs rfl | exact pu_map (fun _ => .v _) _ | exact pu_vals _ | refine pu_app ?_ ?_ | refine pu_cons (by exact pu_of rfl) ?_)) ⟨.ptr 0, trivial⟩ ?_
  refine WC.frz 1 _ [(3, .adr (vc b))] rfl (by repeat (first | exact pu_bytes _ | exact pu_nil | exact pu_vs rfl | exact pu_map (fun _ => .v _) _ | exact pu_vals _ | refine pu_app ?_ ?_ | refine pu_cons (by exact pu_of rfl) ?_)) ⟨.ptr 0, trivial⟩ ?_
  refine WC.drawn1 (by kernel_rfl) ?_
  refine PG.op _ rfl rfl rfl (by rintro _ rfl; exact o_fld_adr rfl Try.underlying36 rfl (sz_of Ty.inf5) (by decide)) ?_
  refine PG.op _ rfl rfl rfl (by rintro _ rfl; exact o_load_adr (d := B8 a.k) rfl Try.underlying5 rfl rfl) ?_
  refine PG.op _ rfl rfl rfl (by rintro _ rfl; exact o_fld_adr rfl Try.underlying36 rfl (sz_of Ty.inf5) (by decide)) ?_
  refine PG.op _ rfl rfl rfl (by rintro _ rfl; exact o_load_adr (d := B8 b.k) rfl Try.underlying5 rfl rfl) ?_
  refine PG.op _ rfl rfl rfl (by rintro _ rfl; exact o_call Ty.cal60 (cmpB_c _ _) ⟨.inl rfl, .inl rfl, trivial⟩ (by exact pua rfl)) ?_
  refine PG.op _ rfl rfl rfl (by rintro _ rfl; exact o_fld_adr rfl Try.underlying36 rfl (sz_of Ty.inf2) (by decide)) ?_
  refine PG.op _ rfl rfl rfl (by rintro _ rfl; exact o_load_adr (d := I64 a.i) rfl Try.underlying2 rfl rfl) ?_
  refine PG.op _ rfl rfl rfl (by rintro _ rfl; exact o_fld_adr rfl Try.underlying36 rfl (sz_of Ty.inf2) (by decide)) ?_
  refine PG.op _ rfl rfl rfl (by rintro _ rfl; exact o_load_adr (d := I64 b.i) rfl Try.underlying2 rfl rfl) ?_
  refine PG.op _ rfl rfl rfl (by rintro _ rfl; exact o_call Ty.cal61 (cmpI_c _ _) ⟨.inl rfl, .inl rfl, trivial⟩ (by exact pua rfl)) ?_
  refine PG.op _ rfl rfl rfl (by rintro _ rfl; exact o_fld_adr rfl Try.underlying36 rfl (sz_of Ty.inf9) (by decide)) ?_
  refine PG.op _ rfl rfl rfl (by rintro _ rfl; exact o_load_adr (d := S a.t) rfl Try.underlying9 rfl rfl) ?_
  refine PG.op _ rfl rfl rfl (by rintro _ rfl; exact o_fld_adr rfl Try.underlying36 rfl (sz_of Ty.inf9) (by decide)) ?_
  refine PG.op _ rfl rfl rfl (by rintro _ rfl; exact o_load_adr (d := S b.t) rfl Try.underlying9 rfl rfl) ?_
  refine PG.op _ rfl rfl rfl (by rintro _ rfl; exact o_call Ty.cal62 (scmp_c _ _) ⟨.inl rfl, .inl rfl, trivial⟩ (by exact pua rfl)) ?_
  refine PG.op _ rfl rfl rfl (by rintro _ rfl; exact o_litP (cs := [(.v _), (.v _), (.v _)]) Try.underlying93 Ty.inf3 rfl rfl rfl rfl (by repeat (first | exact pu_bytes _ | exact pu_nil | exact pu_vs rfl | exact pu_map (fun _ => .v _) _ | exact pu_vals _ | refine pu_app ?_ ?_ | refine pu_cons (by exact pu_of rfl) ?_))) ?_
  refine PG.op _ rfl rfl rfl (by rintro _ rfl; exact o_call Ty.cal59 (or_c [cmpB a.k b.k, cmpI a.i b.i, Lib.compareBytes a.t b.t] (by simp)) ⟨.inl rfl, trivial⟩ (by exact pua rfl)) ?_
  refine PG.op _ rfl rfl rfl (by rintro _ rfl; exact o_assign (.v _) rfl) ?_
  refine PG.nil ⟨by kernel_rfl, rfl, (h2_ _ ?_)⟩
  refine WC.ret ?_
  exact Ends.r1 rfl (.tmp _ (.v _) rfl) (.v _) (rfl)
def pickB (g : Int → Bool) (best v : Val) : Val := if ¬ v.k = 0 ∧ (best.k = 0 ∨ g (cmpV v best) = true) then v else best
def foldB (g : Int → Bool) (l : List Val) : Val := l.foldl (pickB g) z0
theorem foldB_take {g : Int → Bool} {l : List Val} {k : Nat} (h : k < l.length) : foldB g (l.take (k + 1)) = pickB g (foldB g (l.take k)) l[k] := by
  rw [List.take_succ_eq_append_getElem h]; unfold foldB; rw [List.foldl_append]; rfl
theorem heqB {a a' b b' : Option Blk} (h1 : a = a') (h2 : b = b') : [a, b] = [a', b'] := by rw [h1, h2]
set_option maxRecDepth 20000 in
set_option maxHeartbeats 4000000 in
theorem bound_c (g : Int → Bool) (fid : Nat) (hcal : DL.Callee Try.prog fid) (hfun : ∀ x, Fun Try.prog fid [I64 x] (· = Bo (g x))) (l : List Val) (hl : l.length ≤ 1099511627776) : Fun Try.prog 32 [rdV l, .v (.func (.func fid) #[] #[])] (· = VD (foldB g l)) := by
  refine Fun.of Try.func32 rfl (Nat.le_of_ble_eq_true rfl) fun C => ?_
  refine WC.seq fun Fh1_ h1_ => ?_
  refine WC.region ?_
  refine RG.op _ _ rfl rfl (o_alloc (z_of Ty.inf36) rfl) ?_
  refine RG.nil (h1_ _ ?_)
  refine WC.seq fun Fh2_ h2_ => ?_
  refine WC.region ?_
  refine RG.op _ _ rfl rfl (o_alloc (z_of Ty.inf36) rfl) ?_
  refine RG.nil (h2_ _ ?_)
  refine WC.seq fun Fh3_ h3_ => ?_
  refine WC.seq fun Fh4_ h4_ => ?_
  refine WC.region ?_
  refine RG.op _ _ rfl rfl (o_move (.rd _ _) rfl) ?_
  refine RG.op _ _ rfl rfl (o_len_rd rfl Try.underlying22) ?_
  refine RG.op _ _ rfl rfl (o_move (.v _) rfl) ?_
  refine RG.nil (h4_ _ ?_)
  refine WC.block ?_
  refine WC.loopU [7, 10, 11, 12, 13, 14, 15, 16, 17, 18, 19, 20, 21, 22, 23, 24, 25, 26, 27, 28, 29, 30] (fun (k : Nat) => [(10, I64 ((k : Nat) : Int))]) (fun (k : Nat) => [(1, some ⟨vc (foldB g (l.take k)), 36, false, 0⟩)]) (fun (k : Nat) => k ≤ l.length) (fun (k : Nat) => l.length - k) 0 (by first | omega | exact ubyte _ | (simp only [LS] <;> omega)) ?lpa5_ ?lpb6_
  case lpa5_ =>
    exact .mk' ⟨⟨rfl, .v _⟩, trivial⟩ (same_refl _ _) (rfl) (by repeat (first | exact trivial | refine And.intro (Nat.le_refl _) ?_ | refine And.intro trivial ?_ | refine And.intro (by show _ ≤ _; (first | omega | (simp only [LS] <;> omega))) ?_)) (by repeat (first | exact trivial | refine And.intro (one_ok (.own _ _ _ _ _ (Nat.le_refl _))) ?_ | refine And.intro (okp (by repeat (first | exact pu_bytes _ | exact pu_nil | exact pu_vs rfl | exact pu_map (fun _ => .v _) _ | exact pu_vals _ | refine pu_app ?_ ?_ | refine pu_cons (by exact pu_of rfl) ?_))) ?_))
  case lpb6_ =>
    rintro k hI
    refine WC.seq fun Fh7_ h7_ => ?_
    refine WC.region ?_
    refine RG.op _ _ rfl rfl (o_ltI rfl rfl) ?_
    refine RG.nil (h7_ _ ?_)
    refine WC.seq fun Fh8_ h8_ => ?_
    refine WC.cond _ rfl (fun c3 => ?_) (fun c3 => ?_)
    ·
      have p3 := c3
      try simp only [CN] at p3
      have hkl : k < l.length := by omega
      have hf26 : Fun Try.prog fid ([I64 (cmpV (l[k]'hkl) (foldB g (l.take k)))] ++ []) (· = Bo (g (cmpV (l[k]'hkl) (foldB g (l.take k))))) := hfun _
      refine WC.skip (h8_ _ ?_)
      refine WC.seq fun Fh9_ h9_ => ?_
      refine WC.block ?_
      refine WC.seq fun Fh10_ h10_ => ?_
      refine WC.region ?_
      refine RG.op _ _ rfl rfl (o_ixn_L k vc_len rfl rfl rfl Try.underlying22 (sz_of Ty.inf36) (by first | omega | exact ubyte _ | (simp only [LS] <;> omega)) (by first | omega | exact ubyte _ | (simp only [LS] <;> omega))) ?_
      refine RG.op _ _ rfl rfl (o_load_adr_L (xs := [_, _, _]) rfl Try.underlying36 rfl (sz_of Ty.inf36) rfl) ?_
      refine RG.op _ _ rfl rfl (o_alloc (z_of Ty.inf36) rfl) ?_
      refine RG.op _ _ rfl rfl (o_store (d := (.agg [_, _, _])) rfl rfl rfl rfl (sz_of Ty.inf36) (Nat.le_of_ble_eq_true rfl) rfl) ?_
      refine RG.nil (h10_ _ ?_)
      refine WC.seq fun Fh11_ h11_ => ?_
      refine WC.region ?_
      refine RG.op _ _ rfl rfl (o_fld_ptr rfl Try.underlying36 rfl (sz_of Ty.inf5) (by decide)) ?_
      refine RG.op _ _ rfl rfl (o_load_ptr rfl Try.underlying5 rfl rfl rfl rfl) ?_
      refine RG.op _ _ rfl rfl (o_neB (b := 0) rfl rfl) ?_
      refine RG.op _ _ rfl rfl (o_move (.v _) rfl) ?_
      refine RG.opg1 _ _ _ _ _ rfl rfl rfl rfl rfl (fun hb => o_fld_ptr rfl Try.underlying36 rfl (sz_of Ty.inf5) (by decide)) ?_
      refine RG.opg1 _ _ _ _ _ rfl rfl rfl rfl rfl (fun hb => o_load_ptr (gdT hb) Try.underlying5 rfl rfl rfl rfl) ?_
      refine RG.opg1 _ _ _ _ _ rfl rfl rfl rfl rfl (fun hb => o_eqB (b := 0) (gdT hb) rfl) ?_
      refine RG.opg1 _ _ _ _ _ rfl rfl rfl rfl rfl (fun hb => o_move (.v _) (gdT hb)) ?_
      refine RG.opg2 _ _ _ _ _ _ rfl rfl rfl rfl rfl (fun hb => o_move (.v _) rfl) ?_
      refine RG.opg2 _ _ _ _ _ _ rfl rfl rfl rfl rfl (fun hb => o_load_ptr_L (xs := [_, _, _]) rfl Try.underlying36 rfl (sz_of Ty.inf36) rfl rfl rfl rfl) ?_
      refine RG.opg2 _ _ _ _ _ _ rfl rfl rfl rfl rfl (fun hb => o_load_ptr_L (xs := [_, _, _]) rfl Try.underlying36 rfl (sz_of Ty.inf36) rfl rfl rfl rfl) ?_
      refine RG.opg2 _ _ _ _ _ _ rfl rfl rfl rfl rfl (fun hb => (by exact o_call (ds := [VD (l[k]'hkl), VD (foldB g (l.take k))]) Ty.cal51 (cmpV_c (l[k]'hkl) (foldB g (l.take k))) ⟨.inl (gdT hb), .inl (gdT hb), trivial⟩ (by exact pua rfl))) ?_
      refine RG.opg2 _ _ _ _ _ _ rfl rfl rfl rfl rfl (fun hb => (by refine o_callV (d := Bo (g (cmpV (l[k]'hkl) (foldB g (l.take k))))) (cs := []) (ds := [I64 (cmpV (l[k]'hkl) (foldB g (l.take k)))]) ?_ hcal hf26 ?_ (by exact pua rfl); exact .inr ⟨gdT hb, rfl⟩; exact ⟨.inl (gdT hb), trivial⟩)) ?_
      refine RG.opg1 _ _ _ _ _ rfl rfl rfl rfl rfl (fun hb => o_or _ _ (gdT hb) rfl (gdS hb)) ?_
      refine RG.op _ _ rfl rfl (o_and _ _ rfl rfl rfl) ?_
      refine RG.nil (h11_ _ ?_)
      refine WC.cond _ rfl (fun c5 => ?_) (fun c5 => ?_)
      ·
        have p5 := c5
        try simp only [CN] at p5
        have hyes : ¬ (l[k]'hkl).k = 0 ∧ ((foldB g (l.take k)).k = 0 ∨ g (cmpV (l[k]'hkl) (foldB g (l.take k))) = true) := p5
        refine WC.region ?_
        refine RG.op _ _ rfl rfl (o_load_ptr_L (xs := [_, _, _]) rfl Try.underlying36 rfl (sz_of Ty.inf36) rfl rfl rfl rfl) ?_
        refine RG.op _ _ rfl rfl (o_store (d := (.agg [_, _, _])) rfl rfl rfl rfl (sz_of Ty.inf36) (Nat.le_of_ble_eq_true rfl) rfl) ?_
        refine RG.nil (h9_ _ ?_)
        refine WC.region ?_
        refine RG.op _ _ rfl rfl (o_add rfl rfl (by first | omega | exact ubyte _ | (simp only [LS] <;> omega)) (by first | omega | exact ubyte _ | (simp only [LS] <;> omega))) ?_
        refine RG.op _ _ rfl rfl (o_move (.v _) rfl) ?_
        refine RG.nil (Exists.intro (k + 1) ⟨by first | omega | (simp only [LS] <;> omega), by first | omega | (simp only [LS] <;> omega), ?_⟩)
        exact .mk' ⟨⟨rfl, .v _⟩, trivial⟩ (by repeat (first | with_reducible exact same_refl _ _ | with_reducible refine same_updO (by with_unfolding_all exact rfl) ?_ | with_reducible refine same_updN ?_ | with_reducible refine same_updL (by with_unfolding_all exact rfl) ?_ | with_reducible refine same_forget (by with_unfolding_all exact rfl) ?_)) (heqB rfl (mb_eq (by rw [foldB_take hkl]; unfold pickB; rw [if_pos hyes]; rfl))) (by repeat (first | exact trivial | refine And.intro (Nat.le_refl _) ?_ | refine And.intro trivial ?_ | refine And.intro (by show _ ≤ _; (first | omega | (simp only [LS] <;> omega))) ?_)) (by repeat (first | exact trivial | refine And.intro (one_ok (.own _ _ _ _ _ (Nat.le_refl _))) ?_ | refine And.intro (okp (by repeat (first | exact pu_bytes _ | exact pu_nil | exact pu_vs rfl | exact pu_map (fun _ => .v _) _ | exact pu_vals _ | refine pu_app ?_ ?_ | refine pu_cons (by exact pu_of rfl) ?_))) ?_))
      ·
        have p5 := c5
        try simp only [CN] at p5
        have hno : ¬ (¬ (l[k]'hkl).k = 0 ∧ ((foldB g (l.take k)).k = 0 ∨ g (cmpV (l[k]'hkl) (foldB g (l.take k))) = true)) := by rintro ⟨h1, h2⟩; rcases p5 with h | ⟨h3, h4⟩; exact h1 h; rcases h2 with h | h; exact h3 h; (rw [h4] at h; cases h)
        refine WC.skip (h9_ _ ?_)
        refine WC.region ?_
        refine RG.op _ _ rfl rfl (o_add rfl rfl (by first | omega | exact ubyte _ | (simp only [LS] <;> omega)) (by first | omega | exact ubyte _ | (simp only [LS] <;> omega))) ?_
        refine RG.op _ _ rfl rfl (o_move (.v _) rfl) ?_
        refine RG.nil (Exists.intro (k + 1) ⟨by first | omega | (simp only [LS] <;> omega), by first | omega | (simp only [LS] <;> omega), ?_⟩)
        exact .mk' ⟨⟨rfl, .v _⟩, trivial⟩ (by repeat (first | with_reducible exact same_refl _ _ | with_reducible refine same_updO (by with_unfolding_all exact rfl) ?_ | with_reducible refine same_updN ?_ | with_reducible refine same_updL (by with_unfolding_all exact rfl) ?_ | with_reducible refine same_forget (by with_unfolding_all exact rfl) ?_)) (heqB rfl (mb_eq (by rw [foldB_take hkl]; unfold pickB; rw [if_neg hno]))) (by repeat (first | exact trivial | refine And.intro (Nat.le_refl _) ?_ | refine And.intro trivial ?_ | refine And.intro (by show _ ≤ _; (first | omega | (simp only [LS] <;> omega))) ?_)) (by repeat (first | exact trivial | refine And.intro (one_ok (.own _ _ _ _ _ (Nat.le_refl _))) ?_ | refine And.intro (okp (by repeat (first | exact pu_bytes _ | exact pu_nil | exact pu_vs rfl | exact pu_map (fun _ => .v _) _ | exact pu_vals _ | refine pu_app ?_ ?_ | refine pu_cons (by exact pu_of rfl) ?_))) ?_))
    ·
      have p3 := c3
      try simp only [CN] at p3
      refine WC.exit (h3_ _ ?_)
      refine WC.seq fun Fh12_ h12_ => ?_
      refine WC.region ?_
      refine RG.op _ _ rfl rfl (o_load_ptr_L (xs := [_, _, _]) rfl Try.underlying36 rfl (sz_of Ty.inf36) rfl rfl rfl rfl) ?_
      refine RG.op _ _ rfl rfl (o_store (d := (.agg [_, _, _])) rfl rfl rfl rfl (sz_of Ty.inf36) (Nat.le_of_ble_eq_true rfl) rfl) ?_
      refine RG.nil (h12_ _ ?_)
      refine WC.ret ?_
      exact Ends.r1 rfl (.agg rfl Try.underlying36 rfl (sz_of Ty.inf36) rfl rfl rfl) (.pure' (by exact pu_of rfl)) (congrArg (fun q : List Val => VD (foldB g q)) (List.take_of_length_le (by omega)))
def lt0 (x : Int) : Bool := decide (x < 0)
def gt0 (x : Int) : Bool := decide (x > 0)
set_option maxHeartbeats 4000000 in
theorem b1_c (x : Int) : Fun Try.prog 33 [I64 x] (· = Bo (lt0 x)) := by
  refine Fun.of Try.func33 rfl (Nat.le_of_ble_eq_true rfl) fun C => ?_
  refine WC.seq fun Fh1_ h1_ => ?_
  refine WC.region ?_
  refine RG.op _ _ rfl rfl (o_assign (.v _) rfl) ?_
  refine RG.nil (h1_ _ ?_)
  refine WC.seq fun Fh2_ h2_ => ?_
  refine WC.region ?_
  refine RG.op _ _ rfl rfl (o_move (.v _) rfl) ?_
  refine RG.op _ _ rfl rfl (o_ltI rfl rfl) ?_
  refine RG.op _ _ rfl rfl (o_assign (.v _) rfl) ?_
  refine RG.nil (h2_ _ ?_)
  refine WC.ret ?_
  exact Ends.r1 rfl (.tmp _ (.v _) rfl) (.v _) (rfl)
set_option maxHeartbeats 4000000 in
theorem b2_c (x : Int) : Fun Try.prog 34 [I64 x] (· = Bo (gt0 x)) := by
  refine Fun.of Try.func34 rfl (Nat.le_of_ble_eq_true rfl) fun C => ?_
  refine WC.seq fun Fh1_ h1_ => ?_
  refine WC.region ?_
  refine RG.op _ _ rfl rfl (o_assign (.v _) rfl) ?_
  refine RG.nil (h1_ _ ?_)
  refine WC.seq fun Fh2_ h2_ => ?_
  refine WC.region ?_
  refine RG.op _ _ rfl rfl (o_move (.v _) rfl) ?_
  refine RG.op _ _ rfl rfl (o_gtI rfl rfl) ?_
  refine RG.op _ _ rfl rfl (o_assign (.v _) rfl) ?_
  refine RG.nil (h2_ _ ?_)
  refine WC.ret ?_
  exact Ends.r1 rfl (.tmp _ (.v _) rfl) (.v _) (rfl)
set_option maxRecDepth 20000 in
set_option maxHeartbeats 4000000 in
theorem bounds_c (l : List Val) (hl : l.length ≤ 1099511627776) : Fun Try.prog 19 [rdV l] (· = .tup [VD (foldB lt0 l), VD (foldB gt0 l)]) := by
  refine Fun.of Try.func19 rfl (Nat.le_of_ble_eq_true rfl) fun C => ?_
  refine WC.seq fun Fh1_ h1_ => ?_
  refine WC.region ?_
  refine RG.op _ _ rfl rfl (o_alloc (z_of Ty.inf36) rfl) ?_
  refine RG.op _ _ rfl rfl (o_alloc (z_of Ty.inf36) rfl) ?_
  refine RG.nil (h1_ _ ?_)
  refine WC.seq fun Fh2_ h2_ => ?_
  refine WC.region ?_
  refine RG.op _ _ rfl rfl (o_move (.rd _ _) rfl) ?_
  refine RG.op _ _ rfl rfl (o_call (ds := [rdV l, .v (.func (.func 33) #[] #[])]) Ty.cal32 (bound_c lt0 _ Ty.cal33 b1_c l hl) ⟨.inl rfl, .inl rfl, trivial⟩ (by exact pua rfl)) ?_
  refine RG.op _ _ rfl rfl (o_move (.rd _ _) rfl) ?_
  refine RG.op _ _ rfl rfl (o_call (ds := [rdV l, .v (.func (.func 34) #[] #[])]) Ty.cal32 (bound_c gt0 _ Ty.cal34 b2_c l hl) ⟨.inl rfl, .inl rfl, trivial⟩ (by exact pua rfl)) ?_
  refine RG.op _ _ rfl rfl (o_store (d := (.agg [_, _, _])) rfl rfl rfl rfl (sz_of Ty.inf36) (Nat.le_of_ble_eq_true rfl) rfl) ?_
  refine RG.op _ _ rfl rfl (o_store (d := (.agg [_, _, _])) rfl rfl rfl rfl (sz_of Ty.inf36) (Nat.le_of_ble_eq_true rfl) rfl) ?_
  refine RG.nil (h2_ _ ?_)
  refine WC.ret ?_
  exact Ends.r2 rfl (.agg rfl Try.underlying36 rfl (sz_of Ty.inf36) rfl rfl rfl) (.agg rfl Try.underlying36 rfl (sz_of Ty.inf36) rfl rfl rfl) (.pure' (by exact pu_of rfl)) (.pure' (by exact pu_of rfl)) (rfl)
end Go.Proofs.Ytpdjcfhmdeeikaa
namespace Go.Proofs.Ytpdjcfhmdeeikaa
open Go.RowKit Go.DL

theorem may_cases {v : Val} (h : mayM v = true) : v = ⟨0, 0, []⟩ ∨ (v = ⟨1, 0, []⟩ ∨ v = ⟨1, 1, []⟩) ∨ (∃ i, v = ⟨2, i, []⟩) ∨ ∃ t, v = ⟨3, 0, t⟩ := by
  obtain ⟨k, i, t⟩ := v
  unfold mayM at h
  simp only [Bool.and_eq_true, Bool.not_eq_true', Bool.or_eq_false_iff, Bool.or_eq_true, decide_eq_false_iff_not, decide_eq_true_eq, Bool.and_eq_false_iff, bne_eq_false_iff_eq, Bool.not_eq_false', beq_iff_eq] at h
  obtain ⟨⟨hk, ht⟩, hi⟩ := h
  have hk : k.toNat ≤ 3 := Nat.not_lt.1 hk
  have ek : k = 0 ∨ k = 1 ∨ k = 2 ∨ k = 3 := by
    rcases (by omega : k.toNat = 0 ∨ k.toNat = 1 ∨ k.toNat = 2 ∨ k.toNat = 3) with e | e | e | e
    · exact .inl (UInt8.toNat_inj.1 e)
    · exact .inr (.inl (UInt8.toNat_inj.1 e))
    · exact .inr (.inr (.inl (UInt8.toNat_inj.1 e)))
    · exact .inr (.inr (.inr (UInt8.toNat_inj.1 e)))
  rcases ek with rfl | rfl | rfl | rfl
  · have ht : t = [] := ht.resolve_left (by decide)
    have hi : i = 0 := by rcases hi with (hi | hi) | hi; exact absurd hi (by decide); exact hi; exact absurd hi.1 (by decide)
    subst ht hi; exact .inl rfl
  · have ht : t = [] := ht.resolve_left (by decide)
    subst ht
    rcases hi with (hi | hi) | hi
    · exact absurd hi (by decide)
    · subst hi; exact .inr (.inl (.inl rfl))
    · have hi := hi.2
      subst hi; exact .inr (.inl (.inr rfl))
  · have ht : t = [] := ht.resolve_left (by decide)
    subst ht; exact .inr (.inr (.inl ⟨i, rfl⟩))
  · have hi : i = 0 := by rcases hi with (hi | hi) | hi; exact absurd hi (by decide); exact hi; exact absurd hi.1 (by decide)
    subst hi; exact .inr (.inr (.inr ⟨t, rfl⟩))
theorem may_3 {v : Val} (h : mayM v = true) (h3 : v.k = 3) : v.i = 0 := by
  rcases may_cases h with e | (e | e) | ⟨i, e⟩ | ⟨t, e⟩
  · rw [e]
  · rw [e]
  · rw [e] at h3; exact absurd (show (1 : UInt8) = 3 from h3) (by decide)
  · rw [e] at h3; exact absurd (show (2 : UInt8) = 3 from h3) (by decide)
  · rw [e]
theorem may_n3 {v : Val} (h : mayM v = true) (h3 : ¬ v.k = 3) : v.t = [] := by
  rcases may_cases h with e | (e | e) | ⟨i, e⟩ | ⟨t, e⟩
  · rw [e]
  · rw [e]
  · rw [e]
  · rw [e]
  · exact absurd (by rw [e]) h3
theorem cmpS_less : ∀ a b : List UInt8, (Lib.compareBytes a b < 0 ↔ bless a b = true) ∧ (0 < Lib.compareBytes a b ↔ bless b a = true)
  | [], [] => by decide
  | [], y :: b => by simp [Lib.compareBytes, bless, Op.bytesLess]
  | x :: a, [] => by simp [Lib.compareBytes, bless, Op.bytesLess]
  | x :: a, y :: b => by
    have ih := cmpS_less a b
    unfold bless at ih ⊢
    rw [Lib.compareBytes, Op.bytesLess, Op.bytesLess]
    by_cases h1 : x < y
    · have h2 : ¬ y < x := fun h => by have := UInt8.lt_iff_toNat_lt.1 h; have := UInt8.lt_iff_toNat_lt.1 h1; omega
      have h3 : (y == x) = false := beq_false_of_ne fun e => by subst e; exact h2 h1
      simp [h1, h2, h3]
    · by_cases h2 : y < x
      · have h3 : (x == y) = false := beq_false_of_ne fun e => by subst e; exact h1 h2
        simp [h1, h2, h3]
      · have e : x = y := UInt8.toNat_inj.1 (by have a1 : ¬ x.toNat < y.toNat := fun h => h1 (UInt8.lt_iff_toNat_lt.2 h); have a2 : ¬ y.toNat < x.toNat := fun h => h2 (UInt8.lt_iff_toNat_lt.2 h); omega)
        subst e
        simp [h1, ih]
theorem cmpI_self (a : Int) : cmpI a a = 0 := by unfold cmpI; rw [if_neg (by omega), if_neg (by omega)]
theorem cmpB_self (a : UInt8) : cmpB a a = 0 := by unfold cmpB; rw [if_neg (by omega), if_neg (by omega)]
theorem cmp_less {a b : Val} (ha : mayM a = true) (hb : mayM b = true) : lt0 (cmpV a b) = lessM a b ∧ gt0 (cmpV a b) = lessM b a := by
  unfold lt0 gt0 cmpV lessM
  by_cases hk : a.k = b.k
  · have e0 : (a.k != b.k) = false := by rw [hk]; simp
    have e0' : (b.k != a.k) = false := by rw [hk]; simp
    rw [e0, e0', hk, cmpB_self]
    have hs := cmpS_less a.t b.t
    by_cases h3 : b.k = 3
    · have i0 : a.i = 0 := may_3 ha (hk.trans h3)
      have i1 : b.i = 0 := may_3 hb h3
      have e3 : (b.k == 3) = true := by rw [h3]; rfl
      rw [e3, i0, i1, cmpI_self]
      show decide (orI [0, 0, Lib.compareBytes a.t b.t] < 0) = bless a.t b.t ∧ decide (orI [0, 0, Lib.compareBytes a.t b.t] > 0) = bless b.t a.t
      have eo : orI [0, 0, Lib.compareBytes a.t b.t] = Lib.compareBytes a.t b.t := by simp [orI]; omega
      rw [eo]
      constructor
      · rw [Bool.eq_iff_iff, decide_eq_true_eq]; exact hs.1
      · rw [Bool.eq_iff_iff, decide_eq_true_eq]; exact hs.2
    · have t0 : a.t = [] := may_n3 ha (by rw [hk]; exact h3)
      have t1 : b.t = [] := may_n3 hb h3
      have e3 : (b.k == 3) = false := beq_false_of_ne h3
      rw [e3, t0, t1]
      show decide (orI [0, cmpI a.i b.i, 0] < 0) = decide (a.i < b.i) ∧ decide (orI [0, cmpI a.i b.i, 0] > 0) = decide (b.i < a.i)
      have eo : orI [0, cmpI a.i b.i, 0] = cmpI a.i b.i := by simp [orI]; omega
      rw [eo]
      unfold cmpI
      constructor <;> (rw [Bool.eq_iff_iff, decide_eq_true_eq, decide_eq_true_eq]; split; omega; (split <;> omega))
  · have e0 : (a.k != b.k) = true := bne_iff_ne.2 hk
    have e0' : (b.k != a.k) = true := bne_iff_ne.2 (Ne.symm hk)
    have hn : a.k.toNat ≠ b.k.toNat := fun h => hk (UInt8.toNat_inj.1 h)
    rw [e0, e0']
    have eo : orI [cmpB a.k b.k, cmpI a.i b.i, Lib.compareBytes a.t b.t] = cmpB a.k b.k := by
      rw [orI, if_neg]
      unfold cmpB; split; decide; rw [if_pos (by omega)]; decide
    show decide (orI _ < 0) = decide (a.k.toNat < b.k.toNat) ∧ decide (orI _ > 0) = decide (b.k.toNat < a.k.toNat)
    rw [eo]
    unfold cmpB
    constructor <;> (rw [Bool.eq_iff_iff, decide_eq_true_eq, decide_eq_true_eq]; split; omega; (split <;> omega))
def pickL (best v : Val) : Val := if lessM v best = true then v else best
def pickG (best v : Val) : Val := if lessM best v = true then v else best
def bndL (l : List Val) : Val := match mks l with | [] => z0 | v :: r => r.foldl pickL v
def bndG (l : List Val) : Val := match mks l with | [] => z0 | v :: r => r.foldl pickG v
theorem fold_mks (g : Int → Bool) : ∀ (l : List Val) (b : Val), l.foldl (pickB g) b = (mks l).foldl (pickB g) b
  | [], b => rfl
  | v :: l, b => by
    unfold mks
    by_cases hv : v.k = 0
    · rw [List.filter_cons_of_neg (by simp [hv]), List.foldl_cons]
      have e : pickB g b v = b := by unfold pickB; rw [if_neg (fun h => h.1 hv)]
      rw [e]; exact fold_mks g l b
    · rw [List.filter_cons_of_pos (by simp [hv]), List.foldl_cons, List.foldl_cons]; exact fold_mks g l _
theorem fold_pick (g : Int → Bool) (pk : Val → Val → Val) (hpk : ∀ b v, mayM b = true → mayM v = true → ¬ b.k = 0 → ¬ v.k = 0 → pickB g b v = pk b v) : ∀ (m : List Val) (b : Val), (∀ v ∈ m, mayM v = true ∧ ¬ v.k = 0) → mayM b = true → ¬ b.k = 0 → m.foldl (pickB g) b = m.foldl pk b
  | [], _, _, _, _ => rfl
  | v :: m, b, h, h1, h2 => by
    have hv := h v (by simp)
    rw [List.foldl_cons, List.foldl_cons, ← hpk b v h1 hv.1 h2 hv.2]
    have hb : mayM (pickB g b v) = true ∧ ¬ (pickB g b v).k = 0 := by
      unfold pickB; split
      · exact hv
      · exact ⟨h1, h2⟩
    exact fold_pick g pk hpk m _ (fun w hw => h w (by simp [hw])) hb.1 hb.2
theorem bnd_is (g : Int → Bool) (pk : Val → Val → Val) (hpk : ∀ b v, mayM b = true → mayM v = true → ¬ b.k = 0 → ¬ v.k = 0 → pickB g b v = pk b v) (l : List Val) (hl : ∀ v ∈ l, mayM v = true) : foldB g l = match mks l with | [] => z0 | v :: r => r.foldl pk v := by
  unfold foldB
  rw [fold_mks]
  have hm : ∀ v ∈ mks l, mayM v = true ∧ ¬ v.k = 0 := fun v hv => ⟨hl v (mks_mem.1 hv).1, (mks_mem.1 hv).2⟩
  cases e : mks l with
  | nil => rfl
  | cons v r =>
    rw [e] at hm
    have hv := hm v (by simp)
    rw [List.foldl_cons]
    have e1 : pickB g z0 v = v := by unfold pickB; rw [if_pos ⟨hv.2, .inl rfl⟩]
    rw [e1]
    exact fold_pick g pk hpk r v (fun w hw => hm w (by simp [hw])) hv.1 hv.2
theorem bndL_is {l : List Val} (hl : ∀ v ∈ l, mayM v = true) : foldB lt0 l = bndL l := bnd_is lt0 pickL (fun b v hb hv h1 h2 => by
  unfold pickB pickL
  rw [(cmp_less hv hb).1]
  by_cases e : lessM v b = true
  · rw [if_pos ⟨h2, .inr e⟩, if_pos e]
  · rw [if_neg (fun h => by rcases h.2 with h | h; exact h1 h; exact e h), if_neg e]) l hl
theorem bndG_is {l : List Val} (hl : ∀ v ∈ l, mayM v = true) : foldB gt0 l = bndG l := bnd_is gt0 pickG (fun b v hb hv h1 h2 => by
  unfold pickB pickG
  rw [(cmp_less hv hb).2]
  by_cases e : lessM b v = true
  · rw [if_pos ⟨h2, .inr e⟩, if_pos e]
  · rw [if_neg (fun h => by rcases h.2 with h | h; exact h1 h; exact e h), if_neg e]) l hl
end Go.Proofs.Ytpdjcfhmdeeikaa
namespace Go.Proofs.Ytpdjcfhmdeeikaa
open Go.RowKit Go.DL

def okV (v : Val) : Prop := -9223372036854775808 ≤ v.i ∧ v.i ≤ 9223372036854775807 ∧ v.t.length ≤ 9223372036854775807
theorem valR : Rds Try.prog 36 okV vc := by
  refine Rds.map (α := Nat × Int × ByteArray × Unit) (ok := fun p => p.1 ≤ 255 ∧ ((-9223372036854775808 ≤ p.2.1 ∧ p.2.1 ≤ 9223372036854775807) ∧ (p.2.2.1.size ≤ maxLen ∧ True))) (f := fun p => [.v (.int .u8 (p.1 : Int))] ++ ([I64 p.2.1] ++ ([.v (.string p.2.2.1)] ++ []))) ?_ ?_
  · refine Rds.struct (tot := 1 + (1 + (1 + 0))) Try.underlying36 rfl ?_
    refine RdF.cons (P := Try.prog) (off := 0) (sz := 1) (tot := 1 + (1 + 0)) (ok := fun n : Nat => n ≤ 255) (f := fun n => [D.v (.int .u8 (n : Int))]) (ok' := fun p : Int × ByteArray × Unit => (-9223372036854775808 ≤ p.1 ∧ p.1 ≤ 9223372036854775807) ∧ (p.2.1.size ≤ maxLen ∧ True)) (g := fun p => [I64 p.1] ++ ([.v (.string p.2.1)] ++ [])) rfl rfl ?_ ?_
    · exact Rds.nat (m := 255) Try.underlying5 rfl rfl
    refine RdF.cons (P := Try.prog) (sz := 1) (tot := 1 + 0) (ok := fun n : Int => -9223372036854775808 ≤ n ∧ n ≤ 9223372036854775807) (f := fun n => [I64 n]) (ok' := fun p : ByteArray × Unit => p.1.size ≤ maxLen ∧ True) (g := fun p => [.v (.string p.1)] ++ []) rfl rfl ?_ ?_
    · exact Rds.i64 Try.underlying2
    refine RdF.cons (P := Try.prog) (sz := 1) (tot := 0) (ok := fun s : ByteArray => s.size ≤ maxLen) (f := fun s => [D.v (.string s)]) (ok' := fun _ : Unit => True) (g := fun _ => []) rfl rfl ?_ ?_
    · exact Rds.str Try.underlying9
    · exact RdF.nil _
  · rintro ⟨a, b, s, _⟩ ⟨h1, h2, h3, _⟩
    have h1 : a ≤ 255 := h1
    have h3 : s.data.size ≤ 9223372036854775807 := h3
    refine ⟨⟨UInt8.ofNat a, b, s.data.toList⟩, ⟨h2.1, h2.2, by simpa using h3⟩, ?_⟩
    have e : (UInt8.ofNat a).toNat = a := by rw [UInt8.toNat_ofNat']; exact Nat.mod_eq_of_lt (by omega)
    show [D.v (.int .u8 (a : Int))] ++ ([I64 b] ++ ([D.v (.string s)] ++ [])) = [D.v (.int .u8 ((UInt8.ofNat a).toNat : Int)), I64 b, S s.data.toList]
    rw [e]; rfl
def okL (l : List Val) : Prop := (∀ v ∈ l, okV v) ∧ l.length ≤ 9223372036854775807
theorem valsR : Rds Try.prog 22 okL (fun l => [rdV l]) := by exact Rds.slice Try.underlying22 rfl valR
theorem intR' : Rds Try.prog 3 (fun n : Int => -9223372036854775808 ≤ n ∧ n ≤ 9223372036854775807) (fun n => [I64 n]) := by exact Rds.i64 Try.underlying3
theorem u8R : Rds Try.prog 5 (fun _ : UInt8 => True) (fun c => [B8 c]) := by
  refine Rds.map (Rds.nat (m := 255) Try.underlying5 rfl rfl) ?_
  intro a h
  have h : a ≤ 255 := h
  refine ⟨UInt8.ofNat a, trivial, ?_⟩
  have e : (UInt8.ofNat a).toNat = a := by rw [UInt8.toNat_ofNat']; exact Nat.mod_eq_of_lt (by omega)
  show [D.v (.int .u8 (a : Int))] = [D.v (.int .u8 ((UInt8.ofNat a).toNat : Int))]
  rw [e]
/-! ### One text alone -/
end Go.Proofs.Ytpdjcfhmdeeikaa




namespace Go.Proofs.Ytpdjcfhmdeeikaa
open Go.RowKit Go.DL

section
variable {P : Program} {C : Ctx} {env : Nat → D} {H : Heap} {dst : Option Nat} {ty t t' : TypeId} {pos : String} {after : Array Edge} {gu : Option (Nat × Bool)} {X Y : Operand}
theorem o_remT {a b : Int} (hx : ev env X = I64 a) (hy : ev env Y = I64 b) (h1 : b ≠ 0) : OpD P C ⟨dst, .binOp .rem t X Y t', ty, pos, after, gu⟩ env H (I64 (a.tmod b)) H :=
  o_bin (.int .i64 (a.tmod b)) hx hy (by show Op.intDiv .rem .i64 a b = _; unfold Op.intDiv; rw [if_neg h1]; rfl)
end
theorem tmod_lt {a : Int} {n : Nat} (h : 0 < n) : -(n : Int) < a.tmod n ∧ a.tmod n < n := by
  have h1 := Int.tmod_lt_of_pos a (show (0 : Int) < n by omega)
  have h2 := Int.lt_tmod_of_pos a (show (0 : Int) < n by omega)
  exact ⟨h2, h1⟩
end Go.Proofs.Ytpdjcfhmdeeikaa
namespace Go.Proofs.Ytpdjcfhmdeeikaa
open Go.RowKit Go.DL

theorem pickL_then {b v : Val} (h : lessM v b = true) : pickL b v = v := by unfold pickL; rw [if_pos h]
theorem pickL_else {b v : Val} (h : lessM v b = false) : pickL b v = b := by unfold pickL; rw [if_neg (by rw [h]; decide)]
theorem pickG_then {b v : Val} (h : lessM b v = true) : pickG b v = v := by unfold pickG; rw [if_pos h]
theorem pickG_else {b v : Val} (h : lessM b v = false) : pickG b v = b := by unfold pickG; rw [if_neg (by rw [h]; decide)]
end Go.Proofs.Ytpdjcfhmdeeikaa

namespace Go.Proofs.Ytpdjcfhmdeeikaa
open Go.RowKit Go.DL

theorem bless_nil (x : List UInt8) : bless x [] = false := by cases x <;> rfl
theorem bless_asymm : ∀ x y : List UInt8, bless x y = true → bless y x = false
  | x, [], h => by rw [bless_nil] at h; cases h
  | [], _ :: _, _ => rfl
  | a :: x, b :: y, h => by
    have h' : (decide (a < b) || (a == b && bless x y)) = true := h
    clear h
    show (decide (b < a) || (b == a && bless y x)) = false
    rw [Bool.or_eq_true, decide_eq_true_eq, Bool.and_eq_true, beq_iff_eq] at h'
    rcases h' with h1 | ⟨rfl, h⟩
    · have h : a.toNat < b.toNat := h1
      rw [decide_eq_false (by show ¬ b.toNat < a.toNat; omega), show (b == a) = false from beq_false_of_ne (by rintro rfl; omega)]; rfl
    · rw [bless_asymm x y h, decide_eq_false (by show ¬ a.toNat < a.toNat; omega)]; simp
theorem bless_total : ∀ x y : List UInt8, bless x y = false → x = y ∨ bless y x = true
  | [], [], _ => .inl rfl
  | _ :: _, [], _ => .inr rfl
  | [], _ :: _, h => by cases h
  | a :: x, b :: y, h => by
    have h : (decide (a < b) || (a == b && bless x y)) = false := h
    rw [Bool.or_eq_false_iff, decide_eq_false_iff_not, Bool.and_eq_false_iff] at h
    have h1 : ¬ a.toNat < b.toNat := h.1
    by_cases e : a = b
    · subst e
      rcases h.2 with h2 | h2
      · simp at h2
      · rcases bless_total x y h2 with rfl | h3
        · exact .inl rfl
        · right
          show (decide (a < a) || (a == a && bless y x)) = true
          rw [h3]; simp
    · right
      have : b.toNat < a.toNat := by
        have : a.toNat ≠ b.toNat := fun h => e (UInt8.toNat_inj.1 h)
        omega
      show (decide (b < a) || _) = true
      rw [decide_eq_true (show b < a from this)]; rfl

theorem bless_trans : ∀ x y z : List UInt8, bless x y = true → bless y z = true → bless x z = true
  | x, y, [], _, h => by rw [bless_nil] at h; cases h
  | x, [], z :: zs, h, _ => by rw [bless_nil] at h; cases h
  | [], y :: ys, z :: zs, _, _ => rfl
  | x :: xs, y :: ys, z :: zs, h1, h2 => by
    have g1 : (decide (x < y) || (x == y && bless xs ys)) = true := h1
    have g2 : (decide (y < z) || (y == z && bless ys zs)) = true := h2
    show (decide (x < z) || (x == z && bless xs zs)) = true
    simp only [Bool.or_eq_true, decide_eq_true_eq, Bool.and_eq_true, beq_iff_eq] at g1 g2 ⊢
    rcases g1 with g1 | ⟨e1, g1⟩
    · rcases g2 with g2 | ⟨e2, g2⟩
      · exact .inl (UInt8.lt_iff_toNat_lt.2 (by have a := UInt8.lt_iff_toNat_lt.1 g1; have b := UInt8.lt_iff_toNat_lt.1 g2; omega))
      · exact .inl (e2 ▸ g1)
    · rcases g2 with g2 | ⟨e2, g2⟩
      · exact .inl (e1 ▸ g2)
      · exact .inr ⟨e1.trans e2, bless_trans xs ys zs g1 g2⟩
theorem less_k {a b : Val} (h : a.k = b.k) : lessM a b = (bif b.k == 3 then bless a.t b.t else decide (a.i < b.i)) := by
  unfold lessM
  have e0 : (a.k != b.k) = false := by rw [h]; simp
  rw [e0, h]; rfl
theorem less_asym {a b : Val} (h : a.k = b.k) (h1 : lessM a b = true) : lessM b a = false := by
  rw [less_k h] at h1
  rw [less_k h.symm, h]
  cases e : (b.k == 3) with
  | true => rw [e] at h1; exact bless_asymm _ _ h1
  | false =>
    rw [e] at h1
    have h1 := of_decide_eq_true (show decide (a.i < b.i) = true from h1)
    exact decide_eq_false (by omega)
theorem less_nt {a b c : Val} (h : a.k = b.k) (h' : b.k = c.k) (h1 : lessM a b = false) (h2 : lessM b c = false) : lessM a c = false := by
  rw [less_k h] at h1
  rw [less_k h'] at h2
  rw [less_k (h.trans h')]
  rw [h'] at h1
  cases e : (c.k == 3) with
  | true =>
    rw [e] at h1 h2
    have h1 : bless a.t b.t = false := h1
    have h2 : bless b.t c.t = false := h2
    show bless a.t c.t = false
    rcases bless_total _ _ h1 with e1 | e1
    · rw [e1]; exact h2
    · cases e3 : bless a.t c.t with
      | false => rfl
      | true => rw [bless_trans _ _ _ e1 e3] at h2; cases h2
  | false =>
    rw [e] at h1 h2
    have h1 := of_decide_eq_false (show decide (a.i < b.i) = false from h1)
    have h2 := of_decide_eq_false (show decide (b.i < c.i) = false from h2)
    exact decide_eq_false (by omega)
theorem less_irr (a : Val) : lessM a a = false := by
  cases h : lessM a a with
  | false => rfl
  | true => have := less_asym rfl h; rw [h] at this; cases this
theorem foldL_min (k : UInt8) : ∀ (r : List Val) (v : Val), v.k = k → (∀ w ∈ r, w.k = k) → (r.foldl pickL v ∈ v :: r) ∧ ∀ w ∈ v :: r, lessM w (r.foldl pickL v) = false
  | [], v, _, _ => ⟨by simp, fun w hw => by rw [List.mem_singleton] at hw; rw [hw]; exact less_irr v⟩
  | x :: r, v, hv, hr => by
    have hx := hr x (by simp)
    rw [List.foldl_cons]
    by_cases h : lessM x v = true
    · rw [pickL_then h]
      obtain ⟨i1, i2⟩ := foldL_min k r x hx (fun w hw => hr w (by simp [hw]))
      refine ⟨List.mem_cons_of_mem _ i1, fun w hw => ?_⟩
      rcases List.mem_cons.1 hw with e | hw
      · subst e
        have ha : (r.foldl pickL x).k = k := by
          rcases List.mem_cons.1 i1 with e | e
          · rw [e]; exact hx
          · exact hr _ (by simp [e])
        exact less_nt (hv.trans hx.symm) (hx.trans ha.symm) (less_asym (hx.trans hv.symm) h) (i2 x (by simp))
      · exact i2 w hw
    · have h : lessM x v = false := by simpa using h
      rw [pickL_else h]
      obtain ⟨i1, i2⟩ := foldL_min k r v hv (fun w hw => hr w (by simp [hw]))
      have ha : (r.foldl pickL v).k = k := by
        rcases List.mem_cons.1 i1 with e | e
        · rw [e]; exact hv
        · exact hr _ (by simp [e])
      have hmem : r.foldl pickL v ∈ v :: x :: r := by
        rcases List.mem_cons.1 i1 with e | e
        · rw [e]; simp
        · exact List.mem_cons_of_mem _ (List.mem_cons_of_mem _ e)
      refine ⟨hmem, fun w hw => ?_⟩
      rcases List.mem_cons.1 hw with e | hw
      · subst e; exact i2 w (by simp)
      · rcases List.mem_cons.1 hw with e | hw
        · subst e; exact less_nt (hx.trans hv.symm) (hv.trans ha.symm) h (i2 v (by simp))
        · exact i2 w (by simp [hw])
theorem foldG_max (k : UInt8) : ∀ (r : List Val) (v : Val), v.k = k → (∀ w ∈ r, w.k = k) → (r.foldl pickG v ∈ v :: r) ∧ ∀ w ∈ v :: r, lessM (r.foldl pickG v) w = false
  | [], v, _, _ => ⟨by simp, fun w hw => by rw [List.mem_singleton] at hw; rw [hw]; exact less_irr v⟩
  | x :: r, v, hv, hr => by
    have hx := hr x (by simp)
    rw [List.foldl_cons]
    by_cases h : lessM v x = true
    · rw [pickG_then h]
      obtain ⟨i1, i2⟩ := foldG_max k r x hx (fun w hw => hr w (by simp [hw]))
      refine ⟨List.mem_cons_of_mem _ i1, fun w hw => ?_⟩
      rcases List.mem_cons.1 hw with e | hw
      · subst e
        have ha : (r.foldl pickG x).k = k := by
          rcases List.mem_cons.1 i1 with e | e
          · rw [e]; exact hx
          · exact hr _ (by simp [e])
        exact less_nt (ha.trans hx.symm) (hx.trans hv.symm) (i2 x (by simp)) (less_asym (hv.trans hx.symm) h)
      · exact i2 w hw
    · have h : lessM v x = false := by simpa using h
      rw [pickG_else h]
      obtain ⟨i1, i2⟩ := foldG_max k r v hv (fun w hw => hr w (by simp [hw]))
      have ha : (r.foldl pickG v).k = k := by
        rcases List.mem_cons.1 i1 with e | e
        · rw [e]; exact hv
        · exact hr _ (by simp [e])
      have hmem : r.foldl pickG v ∈ v :: x :: r := by
        rcases List.mem_cons.1 i1 with e | e
        · rw [e]; simp
        · exact List.mem_cons_of_mem _ (List.mem_cons_of_mem _ e)
      refine ⟨hmem, fun w hw => ?_⟩
      rcases List.mem_cons.1 hw with e | hw
      · subst e; exact i2 w (by simp)
      · rcases List.mem_cons.1 hw with e | hw
        · subst e; exact less_nt (ha.trans hv.symm) (hv.trans hx.symm) (i2 v (by simp)) h
        · exact i2 w (by simp [hw])
theorem bndL_spec {c : UInt8} {l : List Val} (hk : ∀ v ∈ l, v.k = 0 ∨ v.k = c) : (mks l = [] → bndL l = z0 ∧ bndG l = z0) ∧ (mks l ≠ [] → bndL l ∈ mks l ∧ bndG l ∈ mks l ∧ ∀ w ∈ mks l, lessM w (bndL l) = false ∧ lessM (bndG l) w = false) := by
  have hm := mks_k hk
  unfold bndL bndG
  cases e : mks l with
  | nil => exact ⟨fun _ => ⟨rfl, rfl⟩, fun h => absurd rfl h⟩
  | cons v r =>
    rw [e] at hm
    obtain ⟨a1, a2⟩ := foldL_min c r v (hm v (by simp)) (fun w hw => hm w (by simp [hw]))
    obtain ⟨b1, b2⟩ := foldG_max c r v (hm v (by simp)) (fun w hw => hm w (by simp [hw]))
    exact ⟨fun h => (by cases h), fun _ => ⟨a1, b1, fun w hw => ⟨a2 w hw, b2 w hw⟩⟩⟩
theorem any_take {l : List Val} {k : Nat} {a : Val} (h : k < l.length) : (mks (l.take (k + 1))).any (fun v => decide (v = a)) = ((mks (l.take k)).any (fun v => decide (v = a)) || (if l[k].k = 0 then false else decide (l[k] = a))) := by
  rw [mks_take h, List.any_append]
  congr 1
  by_cases e : l[k].k = 0
  · rw [if_pos e, if_pos e]; rfl
  · rw [if_neg e, if_neg e]; simp
theorem lies_fin {L L' : List Val} {a b p q : Val} (ha : a ∈ L) (hb : b ∈ L) (hall : ∀ w ∈ L, lessM w a = false ∧ lessM b w = false) (h1 : L' = [] → p = z0 ∧ q = z0) (h2 : L' ≠ [] → p ∈ L' ∧ q ∈ L' ∧ ∀ w ∈ L', lessM w p = false ∧ lessM q w = false) (hsub : ∀ v ∈ L', v ∈ L) : (((L.any (fun v => decide (v = a)) && L.any (fun v => decide (v = b))) && ((p.k == 0) || (!lessM p a && !lessM b q))) && true) = true := by
  have e1 : L.any (fun v => decide (v = a)) = true := List.any_eq_true.2 ⟨a, ha, by simp⟩
  have e2 : L.any (fun v => decide (v = b)) = true := List.any_eq_true.2 ⟨b, hb, by simp⟩
  rw [e1, e2]
  by_cases h : L' = []
  · rw [(h1 h).1]; rfl
  · obtain ⟨p1, p2, _⟩ := h2 h
    rw [(hall p (hsub p p1)).1, (hall q (hsub q p2)).2]; simp
set_option maxRecDepth 20000 in
set_option maxHeartbeats 4000000 in
theorem clies_r (c : UInt8) (_ : True) (l : List Val) (hl : okL l) (ct : Int) (_ : -9223372036854775808 ≤ ct ∧ ct ≤ 9223372036854775807) : Fun Try.prog 8 [B8 c, rdV l, I64 ct] (· = Bo true) := by
  have hll := hl.2
  have ha0 : ∃ a, a = bndL l := Exists.intro (bndL l) (Eq.refl _)
  obtain ⟨a, ha⟩ := ha0
  have hb0 : ∃ b, b = bndG l := Exists.intro (bndG l) (Eq.refl _)
  obtain ⟨b, hb⟩ := hb0
  refine Fun.of Try.func8 rfl (Nat.le_of_ble_eq_true rfl) fun C => ?_
  refine WC.seq fun Fh1_ h1_ => ?_
  refine WC.region ?_
  refine RG.op _ _ rfl rfl (o_assign (.v _) rfl) ?_
  refine RG.nil (h1_ _ ?_)
  refine WC.seq fun Fh2_ h2_ => ?_
  refine WC.seq fun Fh3_ h3_ => ?_
  refine WC.region ?_
  refine RG.op _ _ rfl rfl (o_move (.rd _ _) rfl) ?_
  refine RG.op _ _ rfl rfl (o_call Ty.cal11 (long6_c _ (by first | omega | exact ubyte _ | (simp only [LS] <;> omega))) ⟨.inl rfl, trivial⟩ (by exact pua rfl)) ?_
  refine RG.op _ _ rfl rfl (o_move (.v _) rfl) ?_
  refine RG.opg1 _ _ _ _ _ rfl rfl rfl rfl rfl (fun hb => o_move (.v _) rfl) ?_
  refine RG.opg1 _ _ _ _ _ rfl rfl rfl rfl rfl (fun hb => o_move (.rd _ _) rfl) ?_
  refine RG.opg1 _ _ _ _ _ rfl rfl rfl rfl rfl (fun hb => o_call Ty.cal21 (rcolumn_c _ _ (by first | omega | exact ubyte _ | (have hb' := hb; simp only [CN] at hb'; omega) | (simp only [LS] <;> omega) | (have hb' := hb; simp only [CN] at hb'; simp only [LS]; omega))) ⟨.inl (gdT hb), .inl (gdT hb), trivial⟩ (by exact pua rfl)) ?_
  refine RG.opg1 _ _ _ _ _ rfl rfl rfl rfl rfl (fun hb => o_not (gdT hb)) ?_
  refine RG.op _ _ rfl rfl (o_or _ _ rfl rfl rfl) ?_
  refine RG.nil (h3_ _ ?_)
  refine WC.cond _ rfl (fun c1 => ?_) (fun c1 => ?_)
  ·
    have p1 := c1
    try simp only [CN] at p1
    refine WC.seq fun Fh4_ h4_ => ?_
    refine WC.region ?_
    refine RG.op _ _ rfl rfl (o_assign (.v _) rfl) ?_
    refine RG.nil (h4_ _ ?_)
    refine WC.ret ?_
    exact Ends.r1 rfl (.tmp _ (.v _) rfl) (.v _) (rfl)
  ·
    have p1 := c1
    try simp only [CN] at p1
    have hs := long6_sz (l := l) p1.1
    have hs1 := hs.1
    have hcm := colM_iff.1 p1.2
    have hsp := bndL_spec hcm.2.2.2
    rw [← ha, ← hb] at hsp
    have hbd := bounds_c l (by omega)
    rw [bndL_is hcm.2.2.1, bndG_is hcm.2.2.1, ← ha, ← hb] at hbd
    refine WC.skip (h2_ _ ?_)
    refine WC.seq fun Fh5_ h5_ => ?_
    refine WC.region ?_
    refine RG.op _ _ rfl rfl (o_move (.rd _ _) rfl) ?_
    refine RG.op _ _ rfl rfl (o_call (ds := [rdV l]) Ty.cal19 hbd ⟨.inl rfl, trivial⟩ (by exact pua rfl)) ?_
    refine RG.op _ _ rfl rfl (o_move (.tup _) rfl) ?_
    refine RG.op _ _ rfl rfl (o_extract rfl rfl) ?_
    refine RG.op _ _ rfl rfl (o_extract rfl rfl) ?_
    refine RG.op _ _ rfl rfl (o_alloc (z_of Ty.inf36) rfl) ?_
    refine RG.op _ _ rfl rfl (o_alloc (z_of Ty.inf36) rfl) ?_
    refine RG.op _ _ rfl rfl (o_store (d := (.agg [_, _, _])) rfl rfl rfl rfl (sz_of Ty.inf36) (Nat.le_of_ble_eq_true rfl) rfl) ?_
    refine RG.op _ _ rfl rfl (o_store (d := (.agg [_, _, _])) rfl rfl rfl rfl (sz_of Ty.inf36) (Nat.le_of_ble_eq_true rfl) rfl) ?_
    refine RG.nil (h5_ _ ?_)
    refine WC.seq fun Fh6_ h6_ => ?_
    refine WC.region ?_
    refine RG.op _ _ rfl rfl (o_assign (.v _) rfl) ?_
    refine RG.op _ _ rfl rfl (o_assign (.v _) rfl) ?_
    refine RG.op _ _ rfl rfl (o_assign (.v _) rfl) ?_
    refine RG.nil (h6_ _ ?_)
    refine WC.seq fun Fh7_ h7_ => ?_
    refine WC.seq fun Fh8_ h8_ => ?_
    refine WC.region ?_
    refine RG.op _ _ rfl rfl (o_assign (.v _) rfl) ?_
    refine RG.nil (h8_ _ ?_)
    refine WC.block ?_
    refine WC.loopU [6, 9, 10, 11, 12, 29, 30, 31, 32, 33, 34, 35, 36, 37, 38, 39, 40, 41, 42, 43, 44, 45, 46, 47, 48, 49, 50, 51, 52, 53, 54, 55, 56, 57, 58, 59, 60, 61, 62, 63, 64, 65, 66, 67, 68, 69, 70, 71, 72, 73, 74] (fun (k : Nat) => [(12, I64 ((k : Nat) : Int)), (9, Bo ((mks (l.take k)).any (fun v => decide (v = a)))), (10, Bo ((mks (l.take k)).any (fun v => decide (v = b)))), (11, I64 (((mks (l.take k)).length : Nat) : Int))]) (fun (k : Nat) => []) (fun (k : Nat) => k ≤ l.length) (fun (k : Nat) => l.length - k) 0 (by first | omega | exact ubyte _ | (simp only [LS] <;> omega)) ?lpa9_ ?lpb10_
    case lpa9_ =>
      exact .mk' ⟨⟨rfl, .v _⟩, ⟨rfl, .v _⟩, ⟨rfl, .v _⟩, ⟨rfl, .v _⟩, trivial⟩ (same_refl _ _) (rfl) (by repeat (first | exact trivial | refine And.intro (Nat.le_refl _) ?_ | refine And.intro trivial ?_ | refine And.intro (by show _ ≤ _; (first | omega | (simp only [LS] <;> omega))) ?_)) (by repeat (first | exact trivial | refine And.intro (one_ok (.own _ _ _ _ _ (Nat.le_refl _))) ?_ | refine And.intro (okp (by repeat (first | exact pu_bytes _ | exact pu_nil | exact pu_vs rfl | exact pu_map (fun _ => .v _) _ | exact pu_vals _ | refine pu_app ?_ ?_ | refine pu_cons (by exact pu_of rfl) ?_))) ?_))
    case lpb10_ =>
      rintro k hI
      have hkm := mks_len (l.take k)
      rw [List.length_take] at hkm
      refine WC.seq fun Fh11_ h11_ => ?_
      refine WC.seq fun Fh12_ h12_ => ?_
      refine WC.region ?_
      refine RG.op _ _ rfl rfl (o_move (.v _) rfl) ?_
      refine RG.op _ _ rfl rfl (o_move (.rd _ _) rfl) ?_
      refine RG.op _ _ rfl rfl (o_len_rd rfl Try.underlying22) ?_
      refine RG.op _ _ rfl rfl (o_ltI rfl rfl) ?_
      refine RG.nil (h12_ _ ?_)
      refine WC.cond _ rfl (fun c6 => ?_) (fun c6 => ?_)
      ·
        have p6 := c6
        try simp only [CN] at p6
        have hkl : k < l.length := by omega
        refine WC.skip (h11_ _ ?_)
        refine WC.seq fun Fh13_ h13_ => ?_
        refine WC.block ?_
        refine WC.seq fun Fh14_ h14_ => ?_
        refine WC.seq fun Fh15_ h15_ => ?_
        refine WC.region ?_
        refine RG.op _ _ rfl rfl (o_move (.rd _ _) rfl) ?_
        refine RG.op _ _ rfl rfl (o_move (.v _) rfl) ?_
        refine RG.op _ _ rfl rfl (o_ixn_L k vc_len rfl rfl rfl Try.underlying22 (sz_of Ty.inf36) (by first | omega | exact ubyte _ | (simp only [LS] <;> omega)) (by first | omega | exact ubyte _ | (simp only [LS] <;> omega))) ?_
        refine RG.op _ _ rfl rfl (o_fld_adr rfl Try.underlying36 rfl (sz_of Ty.inf5) (by decide)) ?_
        refine RG.op _ _ rfl rfl (o_load_adr rfl Try.underlying5 rfl rfl) ?_
        refine RG.op _ _ rfl rfl (o_eqB (b := 0) rfl rfl) ?_
        refine RG.nil (h15_ _ ?_)
        refine WC.cond _ rfl (fun c8 => ?_) (fun c8 => ?_)
        ·
          have p8 := c8
          try simp only [CN] at p8
          refine WC.exit (h13_ _ ?_)
          refine WC.region ?_
          refine RG.op _ _ rfl rfl (o_move (.v _) rfl) ?_
          refine RG.op _ _ rfl rfl (o_add rfl rfl (by first | omega | exact ubyte _ | (simp only [LS] <;> omega)) (by first | omega | exact ubyte _ | (simp only [LS] <;> omega))) ?_
          refine RG.op _ _ rfl rfl (o_assign (.v _) rfl) ?_
          refine RG.nil (Exists.intro (k + 1) ⟨by first | omega | (simp only [LS] <;> omega), by first | omega | (simp only [LS] <;> omega), ?_⟩)
          exact .mk' ⟨⟨rfl, .v _⟩, ⟨congrArg Bo (by rw [any_take hkl, if_pos p8, Bool.or_false]), .v _⟩, ⟨congrArg Bo (by rw [any_take hkl, if_pos p8, Bool.or_false]), .v _⟩, ⟨congrArg I64 (by rw [mks_take hkl, if_pos p8]; simp), .v _⟩, trivial⟩ (by repeat (first | with_reducible exact same_refl _ _ | with_reducible refine same_updO (by with_unfolding_all exact rfl) ?_ | with_reducible refine same_updN ?_ | with_reducible refine same_updL (by with_unfolding_all exact rfl) ?_ | with_reducible refine same_forget (by with_unfolding_all exact rfl) ?_)) (rfl) (by repeat (first | exact trivial | refine And.intro (Nat.le_refl _) ?_ | refine And.intro trivial ?_ | refine And.intro (by show _ ≤ _; (first | omega | (simp only [LS] <;> omega))) ?_)) (by repeat (first | exact trivial | refine And.intro (one_ok (.own _ _ _ _ _ (Nat.le_refl _))) ?_ | refine And.intro (okp (by repeat (first | exact pu_bytes _ | exact pu_nil | exact pu_vs rfl | exact pu_map (fun _ => .v _) _ | exact pu_vals _ | refine pu_app ?_ ?_ | refine pu_cons (by exact pu_of rfl) ?_))) ?_))
        ·
          have p8 := c8
          try simp only [CN] at p8
          have hmem : (l[k]'hkl) ∈ mks l := mks_mem.2 ⟨List.getElem_mem hkl, p8⟩
          have hne : mks l ≠ [] := fun e => by rw [e] at hmem; cases hmem
          have hgd : l.getD k ⟨0, 0, []⟩ = l[k]'hkl := by rw [List.getD_eq_getElem?_getD, List.getElem?_eq_getElem hkl]; rfl
          have hsw := (hsp.2 hne).2.2 _ hmem
          refine WC.skip (h14_ _ ?_)
          refine WC.seq fun Fh16_ h16_ => ?_
          refine WC.region ?_
          refine RG.op _ _ rfl rfl (o_move (.v _) rfl) ?_
          refine RG.op _ _ rfl rfl (o_add rfl rfl (by first | omega | exact ubyte _ | (simp only [LS] <;> omega)) (by first | omega | exact ubyte _ | (simp only [LS] <;> omega))) ?_
          refine RG.op _ _ rfl rfl (o_assign (.v _) rfl) ?_
          refine RG.nil (h16_ _ ?_)
          refine WC.seq fun Fh17_ h17_ => ?_
          refine WC.drawn1 (by kernel_rfl) ?_
          refine PG.op _ rfl rfl rfl (by rintro _ rfl; exact o_move (.v _) rfl) ?_
          refine PG.op _ rfl rfl rfl (by rintro _ rfl; exact o_move (.v _) rfl) ?_
          refine PG.opg1 _ _ _ _ _ rfl rfl rfl rfl rfl rfl (fun hb => (by rintro _ rfl; exact o_move (.rd _ _) rfl)) ?_
          refine PG.opg1 _ _ _ _ _ rfl rfl rfl rfl rfl rfl (fun hb => (by rintro _ rfl; exact o_move (.v _) rfl)) ?_
          refine PG.opg1 _ _ _ _ _ rfl rfl rfl rfl rfl rfl (fun hb => (by rintro _ rfl; exact o_ixn_LZ (⟨0, 0, []⟩ : Val) k vc_len rfl (gdT hb) (gdT hb) Try.underlying22 (sz_of Ty.inf36) (by first | omega | exact ubyte _ | (have hb' := hb; simp only [CN] at hb'; omega) | (simp only [LS] <;> omega) | (have hb' := hb; simp only [CN] at hb'; simp only [LS]; omega)) (by first | omega | exact ubyte _ | (have hb' := hb; simp only [CN] at hb'; omega) | (simp only [LS] <;> omega) | (have hb' := hb; simp only [CN] at hb'; simp only [LS]; omega)))) ?_
          refine PG.opg1 _ _ _ _ _ rfl rfl rfl rfl rfl rfl (fun hb => (by rintro _ rfl; exact o_load_adr_L (xs := [_, _, _]) (gdT hb) Try.underlying36 rfl (sz_of Ty.inf36) rfl)) ?_
          refine PG.opg1 _ _ _ _ _ rfl rfl rfl rfl rfl rfl (fun hb => (by rintro _ rfl; exact o_load_ptr_L (xs := [_, _, _]) rfl Try.underlying36 rfl (sz_of Ty.inf36) rfl rfl rfl rfl)) ?_
          refine PG.opg1 _ _ _ _ _ rfl rfl rfl rfl rfl rfl (fun hb => (by rintro _ rfl; exact o_eqV Ty.fs36 (gdT hb) (gdT hb))) ?_
          refine PG.op _ rfl rfl rfl (by rintro _ rfl; exact o_or _ _ rfl rfl rfl) ?_
          refine PG.op _ rfl rfl rfl (by rintro _ rfl; exact o_assign (.v _) rfl) ?_
          refine PG.nil ⟨by kernel_rfl, rfl, (h17_ _ ?_)⟩
          refine WC.seq fun Fh18_ h18_ => ?_
          refine WC.drawn1 (by kernel_rfl) ?_
          refine PG.op _ rfl rfl rfl (by rintro _ rfl; exact o_move (.v _) rfl) ?_
          refine PG.op _ rfl rfl rfl (by rintro _ rfl; exact o_move (.v _) rfl) ?_
          refine PG.opg1 _ _ _ _ _ rfl rfl rfl rfl rfl rfl (fun hb => (by rintro _ rfl; exact o_move (.rd _ _) rfl)) ?_
          refine PG.opg1 _ _ _ _ _ rfl rfl rfl rfl rfl rfl (fun hb => (by rintro _ rfl; exact o_move (.v _) rfl)) ?_
          refine PG.opg1 _ _ _ _ _ rfl rfl rfl rfl rfl rfl (fun hb => (by rintro _ rfl; exact o_ixn_LZ (⟨0, 0, []⟩ : Val) k vc_len rfl (gdT hb) (gdT hb) Try.underlying22 (sz_of Ty.inf36) (by first | omega | exact ubyte _ | (have hb' := hb; simp only [CN] at hb'; omega) | (simp only [LS] <;> omega) | (have hb' := hb; simp only [CN] at hb'; simp only [LS]; omega)) (by first | omega | exact ubyte _ | (have hb' := hb; simp only [CN] at hb'; omega) | (simp only [LS] <;> omega) | (have hb' := hb; simp only [CN] at hb'; simp only [LS]; omega)))) ?_
          refine PG.opg1 _ _ _ _ _ rfl rfl rfl rfl rfl rfl (fun hb => (by rintro _ rfl; exact o_load_adr_L (xs := [_, _, _]) (gdT hb) Try.underlying36 rfl (sz_of Ty.inf36) rfl)) ?_
          refine PG.opg1 _ _ _ _ _ rfl rfl rfl rfl rfl rfl (fun hb => (by rintro _ rfl; exact o_load_ptr_L (xs := [_, _, _]) rfl Try.underlying36 rfl (sz_of Ty.inf36) rfl rfl rfl rfl)) ?_
          refine PG.opg1 _ _ _ _ _ rfl rfl rfl rfl rfl rfl (fun hb => (by rintro _ rfl; exact o_eqV Ty.fs36 (gdT hb) (gdT hb))) ?_
          refine PG.op _ rfl rfl rfl (by rintro _ rfl; exact o_or _ _ rfl rfl rfl) ?_
          refine PG.op _ rfl rfl rfl (by rintro _ rfl; exact o_assign (.v _) rfl) ?_
          refine PG.nil ⟨by kernel_rfl, rfl, (h18_ _ ?_)⟩
          refine WC.seq fun Fh19_ h19_ => ?_
          refine WC.drawn1 (by kernel_rfl) ?_
          refine PG.op _ rfl rfl rfl (by rintro _ rfl; exact o_move (.rd _ _) rfl) ?_
          refine PG.op _ rfl rfl rfl (by rintro _ rfl; exact o_move (.v _) rfl) ?_
          refine PG.op _ rfl rfl rfl (by rintro _ rfl; exact o_ixn_L k vc_len rfl rfl rfl Try.underlying22 (sz_of Ty.inf36) (by first | omega | exact ubyte _ | (simp only [LS] <;> omega)) (by first | omega | exact ubyte _ | (simp only [LS] <;> omega))) ?_
          refine PG.op _ rfl rfl rfl (by rintro _ rfl; exact o_load_adr_L (xs := [_, _, _]) rfl Try.underlying36 rfl (sz_of Ty.inf36) rfl) ?_
          refine PG.op _ rfl rfl rfl (by rintro _ rfl; exact o_load_ptr_L (xs := [_, _, _]) rfl Try.underlying36 rfl (sz_of Ty.inf36) rfl rfl rfl rfl) ?_
          refine PG.op _ rfl rfl rfl (by rintro _ rfl; exact o_call (ds := [VD (l[k]'hkl), VD a]) Ty.cal22 (less_c _ _) ⟨.inl rfl, .inl rfl, trivial⟩ (by exact pua rfl)) ?_
          refine PG.op _ rfl rfl rfl (by rintro _ rfl; exact o_move (.v _) rfl) ?_
          refine PG.opg1 _ _ _ _ _ rfl rfl rfl rfl rfl rfl (fun hb => (by rintro _ rfl; exact o_load_ptr_L (xs := [_, _, _]) rfl Try.underlying36 rfl (sz_of Ty.inf36) rfl rfl rfl rfl)) ?_
          refine PG.opg1 _ _ _ _ _ rfl rfl rfl rfl rfl rfl (fun hb => (by rintro _ rfl; exact o_move (.rd _ _) rfl)) ?_
          refine PG.opg1 _ _ _ _ _ rfl rfl rfl rfl rfl rfl (fun hb => (by rintro _ rfl; exact o_move (.v _) rfl)) ?_
          refine PG.opg1 _ _ _ _ _ rfl rfl rfl rfl rfl rfl (fun hb => (by rintro _ rfl; exact o_ixn_LZ (⟨0, 0, []⟩ : Val) k vc_len rfl (gdT hb) (gdT hb) Try.underlying22 (sz_of Ty.inf36) (by first | omega | exact ubyte _ | (have hb' := hb; simp only [CN] at hb'; omega) | (simp only [LS] <;> omega) | (have hb' := hb; simp only [CN] at hb'; simp only [LS]; omega)) (by first | omega | exact ubyte _ | (have hb' := hb; simp only [CN] at hb'; omega) | (simp only [LS] <;> omega) | (have hb' := hb; simp only [CN] at hb'; simp only [LS]; omega)))) ?_
          refine PG.opg1 _ _ _ _ _ rfl rfl rfl rfl rfl rfl (fun hb => (by rintro _ rfl; exact o_load_adr_L (xs := [_, _, _]) (gdT hb) Try.underlying36 rfl (sz_of Ty.inf36) rfl)) ?_
          refine PG.opg1 _ _ _ _ _ rfl rfl rfl rfl rfl rfl (fun hb => (by rintro _ rfl; exact (by exact o_call (ds := [VD b, VD (l.getD k ⟨0, 0, []⟩)]) Ty.cal22 (less_c _ _) ⟨.inl (gdT hb), .inl (gdT hb), trivial⟩ (by exact pua rfl)))) ?_
          refine PG.op _ rfl rfl rfl (by rintro _ rfl; exact o_or _ _ rfl rfl rfl) ?_
          refine PG.nil ⟨by kernel_rfl, rfl, (h19_ _ ?_)⟩
          refine WC.cond _ rfl (fun c12 => ?_) (fun c12 => ?_)
          ·
            have p12 := c12
            try simp only [CN] at p12
            rw [hgd] at p12
            exfalso; rcases p12 with h | h; (rw [hsw.1] at h; cases h); (rw [hsw.2] at h; cases h)
          ·
            have p12 := c12
            try simp only [CN] at p12
            refine WC.skip (h13_ _ ?_)
            refine WC.region ?_
            refine RG.op _ _ rfl rfl (o_move (.v _) rfl) ?_
            refine RG.op _ _ rfl rfl (o_add rfl rfl (by first | omega | exact ubyte _ | (simp only [LS] <;> omega)) (by first | omega | exact ubyte _ | (simp only [LS] <;> omega))) ?_
            refine RG.op _ _ rfl rfl (o_assign (.v _) rfl) ?_
            refine RG.nil (Exists.intro (k + 1) ⟨by first | omega | (simp only [LS] <;> omega), by first | omega | (simp only [LS] <;> omega), ?_⟩)
            exact .mk' ⟨⟨rfl, .v _⟩, ⟨congrArg Bo (by (rw [any_take hkl, if_neg p8, hgd]) <;> rfl), .v _⟩, ⟨congrArg Bo (by (rw [any_take hkl, if_neg p8, hgd]) <;> rfl), .v _⟩, ⟨congrArg I64 (by rw [mks_take hkl, if_neg p8]; simp), .v _⟩, trivial⟩ (by repeat (first | with_reducible exact same_refl _ _ | with_reducible refine same_updO (by with_unfolding_all exact rfl) ?_ | with_reducible refine same_updN ?_ | with_reducible refine same_updL (by with_unfolding_all exact rfl) ?_ | with_reducible refine same_forget (by with_unfolding_all exact rfl) ?_)) (rfl) (by repeat (first | exact trivial | refine And.intro (Nat.le_refl _) ?_ | refine And.intro trivial ?_ | refine And.intro (by show _ ≤ _; (first | omega | (simp only [LS] <;> omega))) ?_)) (by repeat (first | exact trivial | refine And.intro (one_ok (.own _ _ _ _ _ (Nat.le_refl _))) ?_ | refine And.intro (okp (by repeat (first | exact pu_bytes _ | exact pu_nil | exact pu_vs rfl | exact pu_map (fun _ => .v _) _ | exact pu_vals _ | refine pu_app ?_ ?_ | refine pu_cons (by exact pu_of rfl) ?_))) ?_))
      ·
        have p6 := c6
        try simp only [CN] at p6
        refine WC.exit (h7_ _ ?_)
        refine WC.seq fun Fh20_ h20_ => ?_
        refine WC.seq fun Fh21_ h21_ => ?_
        have hke : k = l.length := by omega
        have hta : l.take k = l := List.take_of_length_le (by omega)
        refine WC.region ?_
        refine RG.op _ _ rfl rfl (o_move (.v _) rfl) ?_
        refine RG.op _ _ rfl rfl (o_eqI rfl rfl) ?_
        refine RG.nil (h21_ _ ?_)
        refine WC.cond _ rfl (fun c14 => ?_) (fun c14 => ?_)
        ·
          have p14 := c14
          try simp only [CN] at p14
          have hnil : mks l = [] := by rw [hta] at p14; exact List.length_eq_zero_iff.1 (by omega)
          have hz := hsp.1 hnil
          refine WC.seq fun Fh22_ h22_ => ?_
          refine WC.region ?_
          refine RG.op _ _ rfl rfl (o_load_ptr_L (xs := [_, _, _]) rfl Try.underlying36 rfl (sz_of Ty.inf36) rfl rfl rfl rfl) ?_
          refine RG.op _ _ rfl rfl (o_build (cs := [B8 0, I64 0, S []]) Try.underlying36 Ty.inf36 (Ty.pl36 Try.underlying36) rfl) ?_
          refine RG.op _ _ rfl rfl (o_eqV Ty.fs36 rfl rfl) ?_
          refine RG.op _ _ rfl rfl (o_move (.v _) rfl) ?_
          refine RG.opg1 _ _ _ _ _ rfl rfl rfl rfl rfl (fun hb => o_load_ptr_L (xs := [_, _, _]) rfl Try.underlying36 rfl (sz_of Ty.inf36) rfl rfl rfl rfl) ?_
          refine RG.opg1 _ _ _ _ _ rfl rfl rfl rfl rfl (fun hb => o_build (cs := [B8 0, I64 0, S []]) Try.underlying36 Ty.inf36 (Ty.pl36 Try.underlying36) rfl) ?_
          refine RG.opg1 _ _ _ _ _ rfl rfl rfl rfl rfl (fun hb => o_eqV Ty.fs36 (gdT hb) (gdT hb)) ?_
          refine RG.op _ _ rfl rfl (o_and _ _ rfl rfl rfl) ?_
          refine RG.op _ _ rfl rfl (o_move (.v _) rfl) ?_
          refine RG.opg1 _ _ _ _ _ rfl rfl rfl rfl rfl (fun hb => o_call Ty.cal15 (puts6_c) trivial (by exact pua rfl)) ?_
          refine RG.op _ _ rfl rfl (o_and _ _ rfl rfl rfl) ?_
          refine RG.op _ _ rfl rfl (o_assign (.v _) rfl) ?_
          refine RG.nil (h22_ _ ?_)
          refine WC.ret ?_
          exact Ends.r1 rfl (.tmp _ (.v _) rfl) (.v _) (by rw [hz.1, hz.2]; first | rfl | decide | simp [z0])
        ·
          have p14 := c14
          try simp only [CN] at p14
          have hne : mks l ≠ [] := by rw [hta] at p14; intro e; rw [e] at p14; exact p14 rfl
          have hsq := hsp.2 hne
          have htm := tmod_lt (a := ct) (n := l.length + 1) (by omega)
          refine WC.skip (h20_ _ ?_)
          refine WC.seq fun Fh23_ h23_ => ?_
          refine WC.region ?_
          refine RG.op _ _ rfl rfl (o_move (.v _) rfl) ?_
          refine RG.op _ _ rfl rfl (o_move (.rd _ _) rfl) ?_
          refine RG.op _ _ rfl rfl (o_len_rd rfl Try.underlying22) ?_
          refine RG.op _ _ rfl rfl (o_add rfl rfl (by first | omega | exact ubyte _ | (simp only [LS] <;> omega)) (by first | omega | exact ubyte _ | (simp only [LS] <;> omega))) ?_
          refine RG.op _ _ rfl rfl ((o_remT rfl rfl (by omega)).cast (congrArg I64 (show ct.tmod ((l.length : Int) + 1) = ct.tmod ((l.length + 1 : Nat) : Int) from rfl))) ?_
          refine RG.op _ _ rfl rfl (o_assign (.v _) rfl) ?_
          refine RG.nil (h23_ _ ?_)
          refine WC.joinU [13, 93, 94, 95, 96, 97, 98, 99] (fun (j : Nat) => [(13, I64 ((j : Nat) : Int))]) (fun (j : Nat) => []) (fun (j : Nat) => j ≤ l.length) ?_ ?_
          ·
            refine WC.seq fun Fh24_ h24_ => ?_
            refine WC.region ?_
            refine RG.op _ _ rfl rfl (o_move (.v _) rfl) ?_
            refine RG.op _ _ rfl rfl (o_ltI rfl rfl) ?_
            refine RG.nil (h24_ _ ?_)
            refine WC.cond _ rfl (fun c17 => ?_) (fun c17 => ?_)
            ·
              have p17 := c17
              try simp only [CN] at p17
              refine WC.region ?_
              refine RG.op _ _ rfl rfl (o_move (.v _) rfl) ?_
              refine RG.op _ _ rfl rfl (o_move (.rd _ _) rfl) ?_
              refine RG.op _ _ rfl rfl (o_len_rd rfl Try.underlying22) ?_
              refine RG.op _ _ rfl rfl (o_add rfl rfl (by first | omega | exact ubyte _ | (simp only [LS] <;> omega)) (by first | omega | exact ubyte _ | (simp only [LS] <;> omega))) ?_
              refine RG.op _ _ rfl rfl (o_add rfl rfl (by first | omega | exact ubyte _ | (simp only [LS] <;> omega)) (by first | omega | exact ubyte _ | (simp only [LS] <;> omega))) ?_
              refine RG.op _ _ rfl rfl (o_assign (.v _) rfl) ?_
              refine RG.nil (Exists.intro ((ct.tmod ((l.length + 1 : Nat) : Int) + l.length + 1).toNat) ⟨by first | omega | (simp only [LS] <;> omega), ?_⟩)
              exact .mk' ⟨⟨congrArg I64 (by omega), .v _⟩, trivial⟩ (by repeat (first | with_reducible exact same_refl _ _ | with_reducible refine same_updO (by with_unfolding_all exact rfl) ?_ | with_reducible refine same_updN ?_ | with_reducible refine same_updL (by with_unfolding_all exact rfl) ?_ | with_reducible refine same_forget (by with_unfolding_all exact rfl) ?_)) (rfl) (by repeat (first | exact trivial | refine And.intro (Nat.le_refl _) ?_ | refine And.intro trivial ?_ | refine And.intro (by show _ ≤ _; (first | omega | (simp only [LS] <;> omega))) ?_)) (by repeat (first | exact trivial | refine And.intro (one_ok (.own _ _ _ _ _ (Nat.le_refl _))) ?_ | refine And.intro (okp (by repeat (first | exact pu_bytes _ | exact pu_nil | exact pu_vs rfl | exact pu_map (fun _ => .v _) _ | exact pu_vals _ | refine pu_app ?_ ?_ | refine pu_cons (by exact pu_of rfl) ?_))) ?_))
            ·
              have p17 := c17
              try simp only [CN] at p17
              refine WC.skip (Exists.intro ((ct.tmod ((l.length + 1 : Nat) : Int)).toNat) ⟨by first | omega | (simp only [LS] <;> omega), ?_⟩)
              exact .mk' ⟨⟨congrArg I64 (by omega), .v _⟩, trivial⟩ (by repeat (first | with_reducible exact same_refl _ _ | with_reducible refine same_updO (by with_unfolding_all exact rfl) ?_ | with_reducible refine same_updN ?_ | with_reducible refine same_updL (by with_unfolding_all exact rfl) ?_ | with_reducible refine same_forget (by with_unfolding_all exact rfl) ?_)) (rfl) (by repeat (first | exact trivial | refine And.intro (Nat.le_refl _) ?_ | refine And.intro trivial ?_ | refine And.intro (by show _ ≤ _; (first | omega | (simp only [LS] <;> omega))) ?_)) (by repeat (first | exact trivial | refine And.intro (one_ok (.own _ _ _ _ _ (Nat.le_refl _))) ?_ | refine And.intro (okp (by repeat (first | exact pu_bytes _ | exact pu_nil | exact pu_vs rfl | exact pu_map (fun _ => .v _) _ | exact pu_vals _ | refine pu_app ?_ ?_ | refine pu_cons (by exact pu_of rfl) ?_))) ?_))
          ·
            rintro j hI
            have hk2 : ∀ v ∈ l.take j, v.k = 0 ∨ v.k = c := fun v hv => hcm.2.2.2 v (List.mem_of_mem_take hv)
            have hm2 : ∀ v ∈ l.take j, mayM v = true := fun v hv => hcm.2.2.1 v (List.mem_of_mem_take hv)
            have hsp2 := bndL_spec hk2
            have hsub : ∀ v ∈ mks (l.take j), v ∈ mks l := fun v hv => mks_mem.2 ⟨List.mem_of_mem_take (mks_mem.1 hv).1, (mks_mem.1 hv).2⟩
            have hbd2 := bounds_c (l.take j) (by rw [List.length_take]; omega)
            rw [bndL_is hm2, bndG_is hm2] at hbd2
            refine WC.seq fun Fh25_ h25_ => ?_
            refine WC.region ?_
            refine RG.op _ _ rfl rfl (o_move (.rd _ _) rfl) ?_
            refine RG.op _ _ rfl rfl (o_move (.v _) rfl) ?_
            refine RG.op _ _ rfl rfl (o_takeL j vc_len rfl rfl Try.underlying22 (sz_of Ty.inf36) (by first | omega | exact ubyte _ | (simp only [LS] <;> omega)) (by first | omega | exact ubyte _ | (simp only [LS] <;> omega))) ?_
            refine RG.op _ _ rfl rfl (o_call (ds := [rdV (l.take j)]) Ty.cal19 hbd2 ⟨.inl rfl, trivial⟩ (by exact pua rfl)) ?_
            refine RG.op _ _ rfl rfl (o_move (.tup _) rfl) ?_
            refine RG.op _ _ rfl rfl (o_extract rfl rfl) ?_
            refine RG.op _ _ rfl rfl (o_extract rfl rfl) ?_
            refine RG.op _ _ rfl rfl (o_alloc (z_of Ty.inf36) rfl) ?_
            refine RG.op _ _ rfl rfl (o_alloc (z_of Ty.inf36) rfl) ?_
            refine RG.op _ _ rfl rfl (o_store (d := (.agg [_, _, _])) rfl rfl rfl rfl (sz_of Ty.inf36) (Nat.le_of_ble_eq_true rfl) rfl) ?_
            refine RG.op _ _ rfl rfl (o_store (d := (.agg [_, _, _])) rfl rfl rfl rfl (sz_of Ty.inf36) (Nat.le_of_ble_eq_true rfl) rfl) ?_
            refine RG.nil (h25_ _ ?_)
            refine WC.seq fun Fh26_ h26_ => ?_
            refine WC.region ?_
            refine RG.op _ _ rfl rfl (o_move (.v _) rfl) ?_
            refine RG.op _ _ rfl rfl (o_move (.v _) rfl) ?_
            refine RG.opg1 _ _ _ _ _ rfl rfl rfl rfl rfl (fun hb => o_move (.v _) rfl) ?_
            refine RG.op _ _ rfl rfl (o_and _ _ rfl rfl rfl) ?_
            refine RG.op _ _ rfl rfl (o_move (.v _) rfl) ?_
            refine RG.opg1 _ _ _ _ _ rfl rfl rfl rfl rfl (fun hb => o_fld_ptr rfl Try.underlying36 rfl (sz_of Ty.inf5) (by decide)) ?_
            refine RG.opg1 _ _ _ _ _ rfl rfl rfl rfl rfl (fun hb => o_load_ptr (gdT hb) Try.underlying5 rfl rfl rfl rfl) ?_
            refine RG.opg1 _ _ _ _ _ rfl rfl rfl rfl rfl (fun hb => o_eqB (b := 0) (gdT hb) rfl) ?_
            refine RG.opg1 _ _ _ _ _ rfl rfl rfl rfl rfl (fun hb => o_move (.v _) (gdT hb)) ?_
            refine RG.opg2 _ _ _ _ _ _ rfl rfl rfl rfl rfl (fun hb => o_load_ptr_L (xs := [_, _, _]) rfl Try.underlying36 rfl (sz_of Ty.inf36) rfl rfl rfl rfl) ?_
            refine RG.opg2 _ _ _ _ _ _ rfl rfl rfl rfl rfl (fun hb => o_load_ptr_L (xs := [_, _, _]) rfl Try.underlying36 rfl (sz_of Ty.inf36) rfl rfl rfl rfl) ?_
            refine RG.opg2 _ _ _ _ _ _ rfl rfl rfl rfl rfl (fun hb => (by exact o_call (ds := [VD (bndL (l.take j)), VD a]) Ty.cal22 (less_c _ _) ⟨.inl (gdT hb), .inl (gdT hb), trivial⟩ (by exact pua rfl))) ?_
            refine RG.opg2 _ _ _ _ _ _ rfl rfl rfl rfl rfl (fun hb => o_not (gdT hb)) ?_
            refine RG.opg2 _ _ _ _ _ _ rfl rfl rfl rfl rfl (fun hb => o_move (.v _) (gdT hb)) ?_
            refine RG.opg2 _ _ _ _ _ _ rfl rfl rfl rfl rfl (fun hb => o_load_ptr_L (xs := [_, _, _]) rfl Try.underlying36 rfl (sz_of Ty.inf36) rfl rfl rfl rfl) ?_
            refine RG.opg2 _ _ _ _ _ _ rfl rfl rfl rfl rfl (fun hb => o_load_ptr_L (xs := [_, _, _]) rfl Try.underlying36 rfl (sz_of Ty.inf36) rfl rfl rfl rfl) ?_
            refine RG.opg2 _ _ _ _ _ _ rfl rfl rfl rfl rfl (fun hb => (by exact o_call (ds := [VD b, VD (bndG (l.take j))]) Ty.cal22 (less_c _ _) ⟨.inl (gdT hb), .inl (gdT hb), trivial⟩ (by exact pua rfl))) ?_
            refine RG.opg2 _ _ _ _ _ _ rfl rfl rfl rfl rfl (fun hb => o_not (gdT hb)) ?_
            refine RG.opg2 _ _ _ _ _ _ rfl rfl rfl rfl rfl (fun hb => o_and _ _ (gdT hb) (gdS hb) rfl) ?_
            refine RG.opg1 _ _ _ _ _ rfl rfl rfl rfl rfl (fun hb => o_or _ _ (gdT hb) rfl (gdS hb)) ?_
            refine RG.op _ _ rfl rfl (o_and _ _ rfl rfl rfl) ?_
            refine RG.op _ _ rfl rfl (o_move (.v _) rfl) ?_
            refine RG.opg1 _ _ _ _ _ rfl rfl rfl rfl rfl (fun hb => o_call Ty.cal15 (puts6_c) trivial (by exact pua rfl)) ?_
            refine RG.op _ _ rfl rfl (o_and _ _ rfl rfl rfl) ?_
            refine RG.op _ _ rfl rfl (o_assign (.v _) rfl) ?_
            refine RG.nil (h26_ _ ?_)
            refine WC.ret ?_
            exact Ends.r1 rfl (.tmp _ (.v _) rfl) (.v _) (by rw [hta]; exact congrArg Bo (lies_fin hsq.1 hsq.2.1 hsq.2.2 hsp2.1 hsp2.2 hsub))
end Go.Proofs.Ytpdjcfhmdeeikaa
