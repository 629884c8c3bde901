/-
  Layer row: what fits, as program and document say; one value's bytes, and one read. No condition.
-/
import Derived.Test.YtbdibcpenihpdaaR2
import Derived.Test.YtbdibcpenihpdaaDlU
set_option linter.unusedSimpArgs false
set_option linter.unusedVariables false
namespace Go.Proofs.Ytbdibcpenihpdaa
open Go.RowKit Go.DL

def rall (n : Nat) (p : Nat → Bool) : Bool := (List.range n).all p
theorem rall_succ {k : Nat} {p : Nat → Bool} (h : rall k p = true) (hk : p k = true) : rall (k + 1) p = true := by
  unfold rall at *
  rw [List.range_succ, List.all_append, h]; simp [hk]
theorem rall_stop {n k : Nat} {p : Nat → Bool} (h : k < n) (hk : p k = false) : rall n p = false := by
  unfold rall
  rw [List.all_eq_false]; exact ⟨k, List.mem_range.2 h, by simp [hk]⟩
theorem rall_iff {n : Nat} {p : Nat → Bool} : rall n p = true ↔ ∀ k, k < n → p k = true := by
  unfold rall; simp [List.all_eq_true]
def kOK (ts : List UInt8) (l : List Val) (i : Nat) : Bool := decide ((l.getD i z0).k = 0) || decide ((l.getD i z0).k = ts.getD i 0)
def kinds (ts : List UInt8) (l : List Val) : Bool := decide (l.length = ts.length) && rall l.length (kOK ts l)
def rowM (ts : List UInt8) (l : List Val) : Bool := kinds ts l && l.all mayM
theorem gv_at {l : List Val} {i : Nat} (h : i < l.length) : l[i] = l.getD i z0 := by simp [List.getD, h]
set_option maxHeartbeats 4000000 in
theorem fits_c (ts : List UInt8) (l : List Val) (h1 : ts.length ≤ 1099511627776) (h2 : szM l ≤ 1099511627776) : Fun Try.prog 32 [rdB ts, rdV l] (· = Bo (rowM ts l)) := by
  have h3 := szM_ge l
  refine Fun.of Try.func32 rfl (Nat.le_of_ble_eq_true rfl) fun C => ?_
  refine WC.seq fun Fh1_ h1_ => ?_
  refine WC.region ?_
  refine RG.op _ _ rfl rfl (o_assign (.v _) rfl) ?_
  refine RG.nil (h1_ _ ?_)
  refine WC.seq fun Fh2_ h2_ => ?_
  refine WC.seq fun Fh3_ h3_ => ?_
  refine WC.region ?_
  refine RG.op _ _ rfl rfl (o_move (.rd _ _) rfl) ?_
  refine RG.op _ _ rfl rfl (o_len_rd rfl Try.underlying23) ?_
  refine RG.op _ _ rfl rfl (o_move (.rd _ _) rfl) ?_
  refine RG.op _ _ rfl rfl (o_len_rd rfl Try.underlying22) ?_
  refine RG.op _ _ rfl rfl (o_neI rfl rfl) ?_
  refine RG.nil (h3_ _ ?_)
  refine WC.cond _ rfl (fun c1 => ?_) (fun c1 => ?_)
  ·
    have p1 := c1
    try simp only [CN] at p1
    refine WC.seq fun Fh4_ h4_ => ?_
    refine WC.region ?_
    refine RG.op _ _ rfl rfl (o_assign (.v _) rfl) ?_
    refine RG.nil (h4_ _ ?_)
    refine WC.ret ?_
    exact Ends.r1 rfl (.tmp _ (.v _) rfl) (.v _) (congrArg Bo (by unfold rowM kinds; rw [decide_eq_false (by omega)]; rfl))
  ·
    have p1 := c1
    try simp only [CN] at p1
    refine WC.skip (h2_ _ ?_)
    refine WC.seq fun Fh5_ h5_ => ?_
    refine WC.seq fun Fh6_ h6_ => ?_
    refine WC.region ?_
    refine RG.op _ _ rfl rfl (o_move (.rd _ _) rfl) ?_
    refine RG.op _ _ rfl rfl (o_len_rd rfl Try.underlying23) ?_
    refine RG.op _ _ rfl rfl (o_move (.v _) rfl) ?_
    refine RG.nil (h6_ _ ?_)
    refine WC.block ?_
    refine WC.loopU [4, 5, 6, 16, 17, 18, 19, 20, 21, 22, 23, 24, 25, 26, 27, 28, 29, 30, 31, 32, 33] (fun (k : Nat) => [(16, I64 ((k : Nat) : Int))]) (fun (k : Nat) => []) (fun (k : Nat) => k ≤ l.length ∧ rall k (kOK ts l) = true) (fun (k : Nat) => l.length - k) 0 ⟨by omega, rfl⟩ ?lpa7_ ?lpb8_
    case lpa7_ =>
      exact .mk' ⟨⟨rfl, .v _⟩, trivial⟩ (same_refl _ _) (rfl) (by repeat (first | exact trivial | refine And.intro (Nat.le_refl _) ?_ | refine And.intro trivial ?_ | refine And.intro (by show _ ≤ _; (first | omega | (simp only [LS] <;> omega))) ?_)) (by repeat (first | exact trivial | refine And.intro (okp (by repeat (first | exact pu_bytes _ | exact pu_nil | exact pu_vs rfl | exact pu_map (fun _ => .v _) _ | exact pu_vals _ | refine pu_app ?_ ?_ | refine pu_cons (by exact pu_of rfl) ?_))) ?_))
    case lpb8_ =>
      rintro k hI
      obtain ⟨hk, ha⟩ := id hI
      refine WC.seq fun Fh9_ h9_ => ?_
      refine WC.region ?_
      refine RG.op _ _ rfl rfl (o_ltI rfl rfl) ?_
      refine RG.nil (h9_ _ ?_)
      refine WC.seq fun Fh10_ h10_ => ?_
      refine WC.cond _ rfl (fun c4 => ?_) (fun c4 => ?_)
      ·
        have p4 := c4
        try simp only [CN] at p4
        refine WC.skip (h10_ _ ?_)
        refine WC.seq fun Fh11_ h11_ => ?_
        refine WC.block ?_
        refine WC.seq fun Fh12_ h12_ => ?_
        refine WC.region ?_
        refine RG.op _ _ rfl rfl (o_move (.v _) rfl) ?_
        refine RG.op _ _ rfl rfl (o_ixn_L k vc_len rfl rfl rfl Try.underlying23 (sz_of Ty.inf37) (by first | omega | exact ubyte _ | (simp only [LS] <;> omega)) (by first | omega | exact ubyte _ | (simp only [LS] <;> omega))) ?_
        refine RG.op _ _ rfl rfl (o_load_adr_L (xs := [_, _, _]) rfl Try.underlying37 rfl (sz_of Ty.inf37) rfl) ?_
        refine RG.op _ _ rfl rfl (o_alloc (z_of Ty.inf37) rfl) ?_
        refine RG.op _ _ rfl rfl (o_assign (.v _) rfl) ?_
        refine RG.op _ _ rfl rfl (o_store (d := (.agg [_, _, _])) rfl rfl rfl rfl (sz_of Ty.inf37) (Nat.le_of_ble_eq_true rfl) rfl) ?_
        refine RG.nil (h12_ _ ?_)
        refine WC.seq fun Fh13_ h13_ => ?_
        refine WC.drawn1 (by kernel_rfl) ?_
        refine PG.op _ rfl rfl rfl (by rintro _ rfl; exact o_fld_ptr rfl Try.underlying37 rfl (sz_of Ty.inf5) (by decide)) ?_
        refine PG.op _ rfl rfl rfl (by rintro _ rfl; exact o_load_ptr rfl Try.underlying5 rfl rfl rfl rfl) ?_
        refine PG.op _ rfl rfl rfl (by rintro _ rfl; exact o_neB (b := 0) rfl rfl) ?_
        refine PG.op _ rfl rfl rfl (by rintro _ rfl; exact o_move (.v _) rfl) ?_
        refine PG.opg1 _ _ _ _ _ rfl rfl rfl rfl rfl rfl (fun hb => (by rintro _ rfl; exact o_fld_ptr rfl Try.underlying37 rfl (sz_of Ty.inf5) (by decide))) ?_
        refine PG.opg1 _ _ _ _ _ rfl rfl rfl rfl rfl rfl (fun hb => (by rintro _ rfl; exact o_load_ptr (gdT hb) Try.underlying5 rfl rfl rfl rfl)) ?_
        refine PG.opg1 _ _ _ _ _ rfl rfl rfl rfl rfl rfl (fun hb => (by rintro _ rfl; exact o_move (.rd _ _) rfl)) ?_
        refine PG.opg1 _ _ _ _ _ rfl rfl rfl rfl rfl rfl (fun hb => (by rintro _ rfl; exact o_move (.v _) rfl)) ?_
        refine PG.opg1 _ _ _ _ _ rfl rfl rfl rfl rfl rfl (fun hb => (by rintro _ rfl; exact o_ixn_MZ (0 : UInt8) k (gdT hb) (gdT hb) Try.underlying22 (sz_of Ty.inf5) (by first | omega | exact ubyte _ | (have hb' := hb; simp only [CN] at hb'; omega) | (simp only [LS] <;> omega) | (have hb' := hb; simp only [CN] at hb'; simp only [LS]; omega)) (by first | omega | exact ubyte _ | (have hb' := hb; simp only [CN] at hb'; omega) | (simp only [LS] <;> omega) | (have hb' := hb; simp only [CN] at hb'; simp only [LS]; omega)))) ?_
        refine PG.opg1 _ _ _ _ _ rfl rfl rfl rfl rfl rfl (fun hb => (by rintro _ rfl; exact o_load_adr (gdT hb) Try.underlying5 rfl rfl)) ?_
        refine PG.opg1 _ _ _ _ _ rfl rfl rfl rfl rfl rfl (fun hb => (by rintro _ rfl; exact o_neB (gdT hb) (gdT hb))) ?_
        refine PG.op _ rfl rfl rfl (by rintro _ rfl; exact o_and _ _ rfl rfl rfl) ?_
        refine PG.nil ⟨by kernel_rfl, rfl, (h13_ _ ?_)⟩
        refine WC.cond _ rfl (fun c6 => ?_) (fun c6 => ?_)
        ·
          have p6 := c6
          try simp only [CN] at p6
          refine WC.seq fun Fh14_ h14_ => ?_
          refine WC.region ?_
          refine RG.op _ _ rfl rfl (o_assign (.v _) rfl) ?_
          refine RG.nil (h14_ _ ?_)
          refine WC.ret ?_
          exact Ends.r1 rfl (.tmp _ (.v _) rfl) (.v _) (congrArg Bo (by unfold rowM kinds; rw [rall_stop (k := k) (by omega) (by have a := p6; rw [gv_at (by omega)] at a; unfold kOK; simp only [Bool.or_eq_false_iff, decide_eq_false_iff_not]; exact a), Bool.and_false]; rfl))
        ·
          have p6 := c6
          try simp only [CN] at p6
          refine WC.skip (h11_ _ ?_)
          refine WC.region ?_
          refine RG.op _ _ rfl rfl (o_add rfl rfl (by first | omega | exact ubyte _ | (simp only [LS] <;> omega)) (by first | omega | exact ubyte _ | (simp only [LS] <;> omega))) ?_
          refine RG.op _ _ rfl rfl (o_move (.v _) rfl) ?_
          refine RG.nil (Exists.intro (k + 1) ⟨⟨by omega, rall_succ hI.2 (by have a := p6; rw [gv_at (by omega)] at a; unfold kOK; simp only [Bool.or_eq_true, decide_eq_true_eq]; exact a)⟩, by first | omega | (simp only [LS] <;> omega), ?_⟩)
          exact .mk' ⟨⟨rfl, .v _⟩, trivial⟩ (by repeat (first | with_reducible exact same_refl _ _ | with_reducible refine same_updO (by with_unfolding_all exact rfl) ?_ | with_reducible refine same_updN ?_ | with_reducible refine same_updL (by with_unfolding_all exact rfl) ?_ | with_reducible refine same_forget (by with_unfolding_all exact rfl) ?_)) (rfl) (by repeat (first | exact trivial | refine And.intro (Nat.le_refl _) ?_ | refine And.intro trivial ?_ | refine And.intro (by show _ ≤ _; (first | omega | (simp only [LS] <;> omega))) ?_)) (by repeat (first | exact trivial | refine And.intro (okp (by repeat (first | exact pu_bytes _ | exact pu_nil | exact pu_vs rfl | exact pu_map (fun _ => .v _) _ | exact pu_vals _ | refine pu_app ?_ ?_ | refine pu_cons (by exact pu_of rfl) ?_))) ?_))
      ·
        have p4 := c4
        try simp only [CN] at p4
        refine WC.exit (h5_ _ ?_)
        refine WC.seq fun Fh15_ h15_ => ?_
        refine WC.region ?_
        refine RG.op _ _ rfl rfl (o_move (.rd _ _) rfl) ?_
        first | refine RG.op _ _ rfl rfl (o_call Ty.cal54 (app_c _ _ (by first | omega | exact ubyte _ | (simp only [LS] <;> omega))) ⟨.inr ⟨rfl, rfl⟩, .inl rfl, trivial⟩ (by exact pua rfl)) ?_ | refine RG.op _ _ rfl rfl (o_call Ty.cal54 (app_c [] _ (by first | omega | exact ubyte _ | (simp only [LS] <;> omega))) ⟨.inr ⟨rfl, rfl⟩, .inl rfl, trivial⟩ (by exact pua rfl)) ?_
        refine RG.op _ _ rfl rfl (o_move (.tup _) rfl) ?_
        refine RG.op _ _ rfl rfl (o_extract rfl rfl) ?_
        refine RG.op _ _ rfl rfl (o_extract rfl rfl) ?_
        refine RG.op _ _ rfl rfl (o_assign (.rd _ _) rfl) ?_
        refine RG.op _ _ rfl rfl (o_assign (.v _) rfl) ?_
        refine RG.nil (h15_ _ ?_)
        refine WC.seq fun Fh16_ h16_ => ?_
        refine WC.region ?_
        refine RG.op _ _ rfl rfl (o_move (.v _) rfl) ?_
        refine RG.op _ _ rfl rfl (o_eqI rfl rfl) ?_
        refine RG.op _ _ rfl rfl (o_assign (.v _) rfl) ?_
        refine RG.nil (h16_ _ ?_)
        refine WC.ret ?_
        exact Ends.r1 rfl (.tmp _ (.v _) rfl) (.v _) (congrArg Bo (by have e : k = l.length := (by omega); subst e; unfold rowM kinds; rw [ha, decide_eq_true (show l.length = ts.length by omega)]; unfold appM; cases l.all mayM <;> rfl))
theorem row_bad {ts : List UInt8} {l : List Val} {k : Nat} (hkl : k < l.length) (h : mayM l[k] = false ∨ ¬ (l.getD k z0).k = 0 ∧ ¬ (l.getD k z0).k = ts.getD k 0) : false = rowM ts l := by
  unfold rowM kinds
  rcases h with h | h
  · rw [all_stop hkl h, Bool.and_false]
  · rw [rall_stop hkl (by unfold kOK; simp only [Bool.or_eq_false_iff, decide_eq_false_iff_not]; exact h), Bool.and_false]; rfl
set_option maxHeartbeats 4000000 in
theorem rrow_c (ts : List UInt8) (l : List Val) (h1 : ts.length ≤ 1099511627776) (h2 : l.length ≤ 1099511627776) : Fun Try.prog 23 [rdB ts, rdV l] (· = Bo (rowM ts l)) := by
  refine Fun.of Try.func23 rfl (Nat.le_of_ble_eq_true rfl) fun C => ?_
  refine WC.seq fun Fh1_ h1_ => ?_
  refine WC.region ?_
  refine RG.op _ _ rfl rfl (o_assign (.v _) rfl) ?_
  refine RG.nil (h1_ _ ?_)
  refine WC.seq fun Fh2_ h2_ => ?_
  refine WC.seq fun Fh3_ h3_ => ?_
  refine WC.region ?_
  refine RG.op _ _ rfl rfl (o_move (.rd _ _) rfl) ?_
  refine RG.op _ _ rfl rfl (o_len_rd rfl Try.underlying23) ?_
  refine RG.op _ _ rfl rfl (o_move (.rd _ _) rfl) ?_
  refine RG.op _ _ rfl rfl (o_len_rd rfl Try.underlying22) ?_
  refine RG.op _ _ rfl rfl (o_neI rfl rfl) ?_
  refine RG.nil (h3_ _ ?_)
  refine WC.cond _ rfl (fun c1 => ?_) (fun c1 => ?_)
  ·
    have p1 := c1
    try simp only [CN] at p1
    refine WC.seq fun Fh4_ h4_ => ?_
    refine WC.region ?_
    refine RG.op _ _ rfl rfl (o_assign (.v _) rfl) ?_
    refine RG.nil (h4_ _ ?_)
    refine WC.ret ?_
    exact Ends.r1 rfl (.tmp _ (.v _) rfl) (.v _) (congrArg Bo (by unfold rowM kinds; rw [decide_eq_false (by omega)]; rfl))
  ·
    have p1 := c1
    try simp only [CN] at p1
    refine WC.skip (h2_ _ ?_)
    refine WC.seq fun Fh5_ h5_ => ?_
    refine WC.seq fun Fh6_ h6_ => ?_
    refine WC.region ?_
    refine RG.op _ _ rfl rfl (o_assign (.v _) rfl) ?_
    refine RG.nil (h6_ _ ?_)
    refine WC.block ?_
    refine WC.loopU [4, 5, 11, 12, 13, 14, 15, 16, 17, 18, 19, 20, 21, 22, 23, 24, 25, 26, 27, 28, 29, 30, 31, 32, 33, 34, 35, 36, 37, 38, 39, 40, 41, 42] (fun (k : Nat) => [(5, I64 ((k : Nat) : Int))]) (fun (k : Nat) => []) (fun (k : Nat) => k ≤ l.length ∧ rall k (kOK ts l) = true ∧ (l.take k).all mayM = true) (fun (k : Nat) => l.length - k) 0 ⟨by omega, rfl, rfl⟩ ?lpa7_ ?lpb8_
    case lpa7_ =>
      exact .mk' ⟨⟨rfl, .v _⟩, trivial⟩ (same_refl _ _) (rfl) (by repeat (first | exact trivial | refine And.intro (Nat.le_refl _) ?_ | refine And.intro trivial ?_ | refine And.intro (by show _ ≤ _; (first | omega | (simp only [LS] <;> omega))) ?_)) (by repeat (first | exact trivial | refine And.intro (okp (by repeat (first | exact pu_bytes _ | exact pu_nil | exact pu_vs rfl | exact pu_map (fun _ => .v _) _ | exact pu_vals _ | refine pu_app ?_ ?_ | refine pu_cons (by exact pu_of rfl) ?_))) ?_))
    case lpb8_ =>
      rintro k hI
      obtain ⟨hk, ha, hm⟩ := id hI
      refine WC.seq fun Fh9_ h9_ => ?_
      refine WC.seq fun Fh10_ h10_ => ?_
      refine WC.region ?_
      refine RG.op _ _ rfl rfl (o_move (.v _) rfl) ?_
      refine RG.op _ _ rfl rfl (o_move (.rd _ _) rfl) ?_
      refine RG.op _ _ rfl rfl (o_len_rd rfl Try.underlying23) ?_
      refine RG.op _ _ rfl rfl (o_ltI rfl rfl) ?_
      refine RG.nil (h10_ _ ?_)
      refine WC.cond _ rfl (fun c4 => ?_) (fun c4 => ?_)
      ·
        have p4 := c4
        try simp only [CN] at p4
        have hkl : k < l.length := by omega
        refine WC.skip (h9_ _ ?_)
        refine WC.seq fun Fh11_ h11_ => ?_
        refine WC.block ?_
        refine WC.seq fun Fh12_ h12_ => ?_
        refine WC.drawn1 (by kernel_rfl) ?_
        refine PG.op _ rfl rfl rfl (by rintro _ rfl; exact o_move (.rd _ _) rfl) ?_
        refine PG.op _ rfl rfl rfl (by rintro _ rfl; exact o_move (.v _) rfl) ?_
        refine PG.op _ rfl rfl rfl (by rintro _ rfl; exact o_ixn_L k vc_len rfl rfl rfl Try.underlying23 (sz_of Ty.inf37) (by first | omega | exact ubyte _ | (simp only [LS] <;> omega)) (by first | omega | exact ubyte _ | (simp only [LS] <;> omega))) ?_
        refine PG.op _ rfl rfl rfl (by rintro _ rfl; exact o_load_adr_L (xs := [_, _, _]) rfl Try.underlying37 rfl (sz_of Ty.inf37) rfl) ?_
        first | refine PG.op _ rfl rfl rfl (by rintro _ rfl; exact o_call Ty.cal37 (may_cv _) ⟨.inl rfl, trivial⟩ (by exact pua rfl)) ?_ | refine PG.op _ rfl rfl rfl (by rintro _ rfl; exact o_call Ty.cal37 (may_c _ _ _) ⟨.inl rfl, trivial⟩ (by exact pua rfl)) ?_
        refine PG.op _ rfl rfl rfl (by rintro _ rfl; exact o_not rfl) ?_
        refine PG.op _ rfl rfl rfl (by rintro _ rfl; exact o_move (.v _) rfl) ?_
        refine PG.opg1 _ _ _ _ _ rfl rfl rfl rfl rfl rfl (fun hb => (by rintro _ rfl; exact o_move (.rd _ _) rfl)) ?_
        refine PG.opg1 _ _ _ _ _ rfl rfl rfl rfl rfl rfl (fun hb => (by rintro _ rfl; exact o_move (.v _) rfl)) ?_
        refine PG.opg1 _ _ _ _ _ rfl rfl rfl rfl rfl rfl (fun hb => (by rintro _ rfl; exact o_ixn_LZ (⟨0, 0, []⟩ : Val) k vc_len rfl (gdT hb) (gdT hb) Try.underlying23 (sz_of Ty.inf37) (by first | omega | exact ubyte _ | (have hb' := hb; simp only [CN] at hb'; omega) | (simp only [LS] <;> omega) | (have hb' := hb; simp only [CN] at hb'; simp only [LS]; omega)) (by first | omega | exact ubyte _ | (have hb' := hb; simp only [CN] at hb'; omega) | (simp only [LS] <;> omega) | (have hb' := hb; simp only [CN] at hb'; simp only [LS]; omega)))) ?_
        refine PG.opg1 _ _ _ _ _ rfl rfl rfl rfl rfl rfl (fun hb => (by rintro _ rfl; exact o_fld_adr (gdT hb) Try.underlying37 rfl (sz_of Ty.inf5) (by decide))) ?_
        refine PG.opg1 _ _ _ _ _ rfl rfl rfl rfl rfl rfl (fun hb => (by rintro _ rfl; exact o_load_adr (gdT hb) Try.underlying5 rfl rfl)) ?_
        refine PG.opg1 _ _ _ _ _ rfl rfl rfl rfl rfl rfl (fun hb => (by rintro _ rfl; exact o_neB (b := 0) (gdT hb) rfl)) ?_
        refine PG.opg1 _ _ _ _ _ rfl rfl rfl rfl rfl rfl (fun hb => (by rintro _ rfl; exact o_move (.v _) (gdT hb))) ?_
        refine PG.opg2 _ _ _ _ _ _ rfl rfl rfl rfl rfl rfl (fun hb => (by rintro _ rfl; exact o_move (.rd _ _) rfl)) ?_
        refine PG.opg2 _ _ _ _ _ _ rfl rfl rfl rfl rfl rfl (fun hb => (by rintro _ rfl; exact o_move (.v _) rfl)) ?_
        refine PG.opg2 _ _ _ _ _ _ rfl rfl rfl rfl rfl rfl (fun hb => (by rintro _ rfl; exact o_ixn_LZ (⟨0, 0, []⟩ : Val) k vc_len rfl (gdT hb) (gdT hb) Try.underlying23 (sz_of Ty.inf37) (by first | omega | exact ubyte _ | (have hb' := hb; simp only [CN] at hb'; omega) | (simp only [LS] <;> omega) | (have hb' := hb; simp only [CN] at hb'; simp only [LS]; omega)) (by first | omega | exact ubyte _ | (have hb' := hb; simp only [CN] at hb'; omega) | (simp only [LS] <;> omega) | (have hb' := hb; simp only [CN] at hb'; simp only [LS]; omega)))) ?_
        refine PG.opg2 _ _ _ _ _ _ rfl rfl rfl rfl rfl rfl (fun hb => (by rintro _ rfl; exact o_fld_adr (gdT hb) Try.underlying37 rfl (sz_of Ty.inf5) (by decide))) ?_
        refine PG.opg2 _ _ _ _ _ _ rfl rfl rfl rfl rfl rfl (fun hb => (by rintro _ rfl; exact o_load_adr (gdT hb) Try.underlying5 rfl rfl)) ?_
        refine PG.opg2 _ _ _ _ _ _ rfl rfl rfl rfl rfl rfl (fun hb => (by rintro _ rfl; exact o_move (.rd _ _) rfl)) ?_
        refine PG.opg2 _ _ _ _ _ _ rfl rfl rfl rfl rfl rfl (fun hb => (by rintro _ rfl; exact o_move (.v _) rfl)) ?_
        refine PG.opg2 _ _ _ _ _ _ rfl rfl rfl rfl rfl rfl (fun hb => (by rintro _ rfl; exact o_ixn_MZ (0 : UInt8) k (gdT hb) (gdT hb) Try.underlying22 (sz_of Ty.inf5) (by first | omega | exact ubyte _ | (have hb' := hb; simp only [CN] at hb'; omega) | (simp only [LS] <;> omega) | (have hb' := hb; simp only [CN] at hb'; simp only [LS]; omega)) (by first | omega | exact ubyte _ | (have hb' := hb; simp only [CN] at hb'; omega) | (simp only [LS] <;> omega) | (have hb' := hb; simp only [CN] at hb'; simp only [LS]; omega)))) ?_
        refine PG.opg2 _ _ _ _ _ _ rfl rfl rfl rfl rfl rfl (fun hb => (by rintro _ rfl; exact o_load_adr (gdT hb) Try.underlying5 rfl rfl)) ?_
        refine PG.opg2 _ _ _ _ _ _ rfl rfl rfl rfl rfl rfl (fun hb => (by rintro _ rfl; exact o_neB (gdT hb) (gdT hb))) ?_
        refine PG.opg1 _ _ _ _ _ rfl rfl rfl rfl rfl rfl (fun hb => (by rintro _ rfl; exact o_and _ _ (gdT hb) (gdS hb) rfl)) ?_
        refine PG.op _ rfl rfl rfl (by rintro _ rfl; exact o_or _ _ rfl rfl rfl) ?_
        refine PG.nil ⟨by kernel_rfl, rfl, (h12_ _ ?_)⟩
        refine WC.cond _ rfl (fun c6 => ?_) (fun c6 => ?_)
        ·
          have p6 := c6
          try simp only [CN] at p6
          refine WC.seq fun Fh13_ h13_ => ?_
          refine WC.region ?_
          refine RG.op _ _ rfl rfl (o_assign (.v _) rfl) ?_
          refine RG.nil (h13_ _ ?_)
          refine WC.ret ?_
          exact Ends.r1 rfl (.tmp _ (.v _) rfl) (.v _) (congrArg Bo (row_bad hkl p6))
        ·
          have p6 := c6
          try simp only [CN] at p6
          refine WC.skip (h11_ _ ?_)
          refine WC.region ?_
          refine RG.op _ _ rfl rfl (o_move (.v _) rfl) ?_
          refine RG.op _ _ rfl rfl (o_add rfl rfl (by first | omega | exact ubyte _ | (simp only [LS] <;> omega)) (by first | omega | exact ubyte _ | (simp only [LS] <;> omega))) ?_
          refine RG.op _ _ rfl rfl (o_assign (.v _) rfl) ?_
          refine RG.nil (Exists.intro (k + 1) ⟨⟨by omega, rall_succ hI.2.1 (by have a := p6.2; unfold kOK z0; simp only [Bool.or_eq_true, decide_eq_true_eq]; exact a), all_step (by omega) hI.2.2 p6.1⟩, by first | omega | (simp only [LS] <;> omega), ?_⟩)
          exact .mk' ⟨⟨rfl, .v _⟩, trivial⟩ (by repeat (first | with_reducible exact same_refl _ _ | with_reducible refine same_updO (by with_unfolding_all exact rfl) ?_ | with_reducible refine same_updN ?_ | with_reducible refine same_updL (by with_unfolding_all exact rfl) ?_ | with_reducible refine same_forget (by with_unfolding_all exact rfl) ?_)) (rfl) (by repeat (first | exact trivial | refine And.intro (Nat.le_refl _) ?_ | refine And.intro trivial ?_ | refine And.intro (by show _ ≤ _; (first | omega | (simp only [LS] <;> omega))) ?_)) (by repeat (first | exact trivial | refine And.intro (okp (by repeat (first | exact pu_bytes _ | exact pu_nil | exact pu_vs rfl | exact pu_map (fun _ => .v _) _ | exact pu_vals _ | refine pu_app ?_ ?_ | refine pu_cons (by exact pu_of rfl) ?_))) ?_))
      ·
        have p4 := c4
        try simp only [CN] at p4
        refine WC.exit (h5_ _ ?_)
        refine WC.seq fun Fh14_ h14_ => ?_
        refine WC.region ?_
        refine RG.op _ _ rfl rfl (o_assign (.v _) rfl) ?_
        refine RG.nil (h14_ _ ?_)
        refine WC.ret ?_
        exact Ends.r1 rfl (.tmp _ (.v _) rfl) (.v _) (congrArg Bo (by have e : k = l.length := (by omega); subst e; rw [List.take_length] at hm; unfold rowM kinds; rw [ha, hm, decide_eq_true (show l.length = ts.length by omega)]; rfl))
set_option maxHeartbeats 4000000 in
theorem rputM_c (u : Nat) (hu : u ≤ 18446744073709551615) : FunM Try.prog 42 [N64 u] [] (fun o H' => o = .ret (ow 0 (encB u).length 1) ∧ H' = [tb 5 (encB u).length (bytesD (encB u))]) := by
  refine FunM.of Try.func42 rfl (Nat.le_of_ble_eq_true rfl) fun C => ?_
  refine WC.seq fun Fh1_ h1_ => ?_
  refine WC.region ?_
  refine RG.op _ _ rfl rfl (o_assign (.v _) rfl) ?_
  refine RG.nil (h1_ _ ?_)
  refine WC.seq fun Fh2_ h2_ => ?_
  refine WC.region ?_
  refine RG.op _ _ rfl rfl (o_nil 5 1) ?_
  refine RG.nil (h2_ _ ?_)
  refine WC.block ?_
  refine WC.loopU [0, 2, 3, 4, 5, 6, 7, 8, 9, 10, 11, 12, 13, 14, 15, 16, 17, 18, 19, 20] (fun (p : List UInt8 × Nat) => [(0, N64 p.2), (3, ow 0 p.1.length 1)]) (fun (p : List UInt8 × Nat) => [(0, tb 5 p.1.length (bytesD p.1))]) (fun (p : List UInt8 × Nat) => p.1 ++ encB p.2 = encB u ∧ p.2 ≤ u) (fun (p : List UInt8 × Nat) => p.2) ([], u) ⟨rfl, Nat.le_refl _⟩ ?lpa3_ ?lpb4_
  case lpa3_ =>
    exact .mk' ⟨⟨rfl, .v _⟩, ⟨rfl, (by first | exact .own _ _ _ _ _ (Nat.le_refl _) | exact .ptr _ _ _ (Nat.le_refl _) | exact .omp _ _ (Nat.le_refl _))⟩, trivial⟩ (same_refl _ _) (rfl) (by repeat (first | exact trivial | refine And.intro (Nat.le_refl _) ?_ | refine And.intro trivial ?_ | refine And.intro (by show _ ≤ _; (first | omega | (simp only [LS] <;> omega))) ?_)) (by repeat (first | exact trivial | refine And.intro (okp (by repeat (first | exact pu_bytes _ | exact pu_nil | exact pu_vs rfl | exact pu_map (fun _ => .v _) _ | exact pu_vals _ | refine pu_app ?_ ?_ | refine pu_cons (by exact pu_of rfl) ?_))) ?_))
  case lpb4_ =>
    rintro p hI
    obtain ⟨he, hp⟩ := id hI
    have hl := enc_lt2 hu he
    refine WC.block ?_
    refine WC.seq fun Fh5_ h5_ => ?_
    refine WC.region ?_
    refine RG.op _ _ rfl rfl (o_move (.v _) rfl) ?_
    refine RG.op _ _ rfl rfl (o_remU (b := 128) rfl rfl (by first | omega | exact ubyte _ | (simp only [LS] <;> omega))) ?_
    refine RG.op _ _ rfl rfl (o_UtoB rfl Try.underlying72 Try.underlying5) ?_
    refine RG.op _ _ rfl rfl (o_assign (.v _) rfl) ?_
    refine RG.nil (h5_ _ ?_)
    refine WC.seq fun Fh6_ h6_ => ?_
    refine WC.region ?_
    refine RG.op _ _ rfl rfl (o_move (.v _) rfl) ?_
    refine RG.op _ _ rfl rfl (o_quoU (b := 128) rfl rfl (by first | omega | exact ubyte _ | (simp only [LS] <;> omega)) (by first | omega | exact ubyte _ | (simp only [LS] <;> omega))) ?_
    refine RG.op _ _ rfl rfl (o_assign (.v _) rfl) ?_
    refine RG.nil (h6_ _ ?_)
    refine WC.seq fun Fh7_ h7_ => ?_
    refine WC.seq fun Fh8_ h8_ => ?_
    refine WC.region ?_
    refine RG.op _ _ rfl rfl (o_move (.v _) rfl) ?_
    refine RG.op _ _ rfl rfl (o_eqI rfl rfl) ?_
    refine RG.nil (h8_ _ ?_)
    refine WC.cond _ rfl (fun c4 => ?_) (fun c4 => ?_)
    ·
      have p4 := c4
      try simp only [CN] at p4
      refine WC.seq fun Fh9_ h9_ => ?_
      refine WC.region ?_
      refine RG.op _ _ rfl rfl (o_move (.own _ _ _ _ _) rfl) ?_
      refine RG.op _ _ rfl rfl (o_move (.v _) rfl) ?_
      refine RG.op _ _ rfl rfl (o_litP (cs := [(.v _)]) Try.underlying22 Ty.inf5 rfl rfl rfl rfl (by repeat (first | exact pu_bytes _ | exact pu_nil | exact pu_vs rfl | exact pu_map (fun _ => .v _) _ | exact pu_vals _ | refine pu_app ?_ ?_ | refine pu_cons (by exact pu_of rfl) ?_))) ?_
      refine RG.op _ _ rfl rfl (o_appT (Elem.of Try.underlying22 Ty.inf5 rfl (by decide)) rfl rfl rfl (by first | omega | exact ubyte _ | (simp only [LS] <;> omega)) (by first | omega | exact ubyte _ | (simp only [LS] <;> omega)) (by repeat (first | exact bytesD_one _ | exact one_nil | exact one_map (fun _ => rfl) _ | exact one_vals _ | refine one_app ?_ ?_ | refine one_cons rfl ?_)) (by first | omega | exact ubyte _ | (simp only [LS] <;> omega)) (by first | omega | exact ubyte _ | (simp only [LS] <;> omega))) ?_
      refine RG.op _ _ rfl rfl (o_assign (.own _ _ _ _ _) rfl) ?_
      refine RG.nil (h9_ _ ?_)
      refine WC.ret ?_
      first | refine endM.mk (H0 := []) 1 [_] rfl rfl (by repeat (first | exact trivial | refine And.intro (okp (by repeat (first | exact pu_bytes _ | exact pu_nil | exact pu_vs rfl | exact pu_map (fun _ => .v _) _ | exact pu_vals _ | refine pu_app ?_ ?_ | refine pu_cons (by exact pu_of rfl) ?_))) ?_)) ?_ | (simp only [thenQ, blkQ, noGo]; refine endM.mk (H0 := []) 1 [_] rfl rfl (by repeat (first | exact trivial | refine And.intro (okp (by repeat (first | exact pu_bytes _ | exact pu_nil | exact pu_vs rfl | exact pu_map (fun _ => .v _) _ | exact pu_vals _ | refine pu_app ?_ ?_ | refine pu_cons (by exact pu_of rfl) ?_))) ?_)) ?_) | refine endM.mk 1 [_] rfl rfl (by repeat (first | exact trivial | refine And.intro (okp (by repeat (first | exact pu_bytes _ | exact pu_nil | exact pu_vs rfl | exact pu_map (fun _ => .v _) _ | exact pu_vals _ | refine pu_app ?_ ?_ | refine pu_cons (by exact pu_of rfl) ?_))) ?_)) ?_
      exact EndsM.r1 rfl (.tmp _ (.own _ _ _ _ _) rfl) (by first | exact .own _ _ _ _ _ (Nat.le_refl _) | exact .v _ | exact Pure'.ok (by exact pu_of rfl) _ | exact .tup _ (by repeat (first | exact ok_nil | refine ok_cons (by first | exact .own _ _ _ _ _ (Nat.le_refl _) | exact .ptr _ _ _ (Nat.le_refl _) | exact .v _ | exact Pure'.ok (by exact pu_of rfl) _) ?_))) (⟨congrArg DOut.ret (ow_eq (by rw [← he, encB_small (u := p.2) (by omega)]; simp)), congrArg (fun c => [c]) (tb_eq (by rw [← he, encB_small (u := p.2) (by omega)]; simp) (by rw [← he, encB_small (u := p.2) (by omega), Nat.mod_eq_of_lt (by omega)]; exact (bytesD_app _ [_]).symm))⟩)
    ·
      have p4 := c4
      try simp only [CN] at p4
      refine WC.skip (h7_ _ ?_)
      refine WC.region ?_
      refine RG.op _ _ rfl rfl (o_move (.own _ _ _ _ _) rfl) ?_
      refine RG.op _ _ rfl rfl (o_move (.v _) rfl) ?_
      refine RG.op _ _ rfl rfl (o_addB (b := 128) rfl rfl) ?_
      refine RG.op _ _ rfl rfl (o_litP (cs := [(.v _)]) Try.underlying22 Ty.inf5 rfl rfl rfl rfl (by repeat (first | exact pu_bytes _ | exact pu_nil | exact pu_vs rfl | exact pu_map (fun _ => .v _) _ | exact pu_vals _ | refine pu_app ?_ ?_ | refine pu_cons (by exact pu_of rfl) ?_))) ?_
      refine RG.op _ _ rfl rfl (o_appT (Elem.of Try.underlying22 Ty.inf5 rfl (by decide)) rfl rfl rfl (by first | omega | exact ubyte _ | (simp only [LS] <;> omega)) (by first | omega | exact ubyte _ | (simp only [LS] <;> omega)) (by repeat (first | exact bytesD_one _ | exact one_nil | exact one_map (fun _ => rfl) _ | exact one_vals _ | refine one_app ?_ ?_ | refine one_cons rfl ?_)) (by first | omega | exact ubyte _ | (simp only [LS] <;> omega)) (by first | omega | exact ubyte _ | (simp only [LS] <;> omega))) ?_
      refine RG.op _ _ rfl rfl (o_assign (.own _ _ _ _ _) rfl) ?_
      refine RG.nil (Exists.intro ((p.1 ++ [UInt8.ofNat (p.2 % 128 + 128)], p.2 / 128)) ⟨⟨by rw [← he, encB_big (u := p.2) (by omega), List.append_assoc]; rfl, by show p.2 / 128 ≤ u; omega⟩, by show p.2 / 128 < p.2; omega, ?_⟩)
      exact .mk' ⟨⟨rfl, .v _⟩, ⟨ow_eq (by simp), (by first | exact .own _ _ _ _ _ (Nat.le_refl _) | exact .ptr _ _ _ (Nat.le_refl _) | exact .omp _ _ (Nat.le_refl _))⟩, trivial⟩ (by repeat (first | with_reducible exact same_refl _ _ | with_reducible refine same_updO (by with_unfolding_all exact rfl) ?_ | with_reducible refine same_updN ?_ | with_reducible refine same_updL (by with_unfolding_all exact rfl) ?_ | with_reducible refine same_forget (by with_unfolding_all exact rfl) ?_)) (congrArg (fun c => [c]) (tb_eq (by simp) (by rw [add_128]; exact (bytesD_app _ [_]).symm))) (by repeat (first | exact trivial | refine And.intro (Nat.le_refl _) ?_ | refine And.intro trivial ?_ | refine And.intro (by show _ ≤ _; (first | omega | (simp only [LS] <;> omega))) ?_)) (by repeat (first | exact trivial | refine And.intro (okp (by repeat (first | exact pu_bytes _ | exact pu_nil | exact pu_vs rfl | exact pu_map (fun _ => .v _) _ | exact pu_vals _ | refine pu_app ?_ ?_ | refine pu_cons (by exact pu_of rfl) ?_))) ?_))
set_option maxHeartbeats 4000000 in
theorem rone_m (v : Val) (hv : inI v) (ht : v.t.length ≤ 1099511627776) : Fun Try.prog 34 [VD v] (· = rdB (oneR v)) := by
  have h3 := zig_le hv.1 hv.2
  have hq : ((v.t.length : Int) % 18446744073709551616).toNat = v.t.length := by omega
  have h4 := encB_len10 (u := v.t.length) (by omega)
  obtain ⟨h1, h2⟩ := hv
  refine Fun.of Try.func34 rfl (Nat.le_of_ble_eq_true rfl) fun C => ?_
  refine WC.seq fun Fh1_ h1_ => ?_
  refine WC.region ?_
  refine RG.op _ _ rfl rfl (o_box (d := .agg [_, _, _]) rfl rfl) ?_
  refine RG.op _ _ rfl rfl (o_assign (.v _) rfl) ?_
  refine RG.nil (h1_ _ ?_)
  refine WC.seq fun Fh2_ h2_ => ?_
  refine WC.seq fun Fh3_ h3_ => ?_
  refine WC.region ?_
  refine RG.op _ _ rfl rfl (o_fld_ptr rfl Try.underlying37 rfl (sz_of Ty.inf5) (by decide)) ?_
  refine RG.op _ _ rfl rfl (o_load_ptr rfl Try.underlying5 rfl rfl rfl rfl) ?_
  refine RG.nil (h3_ _ ?_)
  refine WC.block ?_
  refine WC.seq fun Fh4_ h4_ => ?_
  refine WC.region ?_
  refine RG.op _ _ rfl rfl (o_eqB (b := 1) rfl rfl) ?_
  refine RG.op _ _ rfl rfl (o_assign (.v _) rfl) ?_
  refine RG.nil (h4_ _ ?_)
  refine WC.cond _ rfl (fun c2 => ?_) (fun c2 => ?_)
  ·
    have p2 := c2
    try simp only [CN] at p2
    refine WC.seq fun Fh5_ h5_ => ?_
    refine WC.region ?_
    refine RG.op _ _ rfl rfl (o_fld_ptr rfl Try.underlying37 rfl (sz_of Ty.inf2) (by decide)) ?_
    refine RG.op _ _ rfl rfl (o_load_ptr rfl Try.underlying2 rfl rfl rfl rfl) ?_
    refine RG.op _ _ rfl rfl (o_ItoB rfl Try.underlying2 Try.underlying5) ?_
    refine RG.op _ _ rfl rfl (o_litP (cs := [(.v _)]) Try.underlying22 Ty.inf5 rfl rfl rfl rfl (by repeat (first | exact pu_bytes _ | exact pu_nil | exact pu_vs rfl | exact pu_map (fun _ => .v _) _ | exact pu_vals _ | refine pu_app ?_ ?_ | refine pu_cons (by exact pu_of rfl) ?_))) ?_
    refine RG.op _ _ rfl rfl (o_assign (.rd _ _) rfl) ?_
    refine RG.nil (h5_ _ ?_)
    refine WC.ret ?_
    exact Ends.r1 rfl (.tmp _ (.rd _ _) rfl) (.rd _ _) (by unfold oneR; rw [if_pos (by simpa using c2)]; exact rd_eq rfl rfl)
  ·
    have p2 := c2
    try simp only [CN] at p2
    refine WC.seq fun Fh6_ h6_ => ?_
    refine WC.region ?_
    refine RG.op _ _ rfl rfl (o_eqB (b := 2) rfl rfl) ?_
    refine RG.op _ _ rfl rfl (o_assign (.v _) rfl) ?_
    refine RG.nil (h6_ _ ?_)
    refine WC.cond _ rfl (fun c4 => ?_) (fun c4 => ?_)
    ·
      have p4 := c4
      try simp only [CN] at p4
      refine WC.seq fun Fh7_ h7_ => ?_
      refine WC.region ?_
      refine RG.op _ _ rfl rfl (o_fld_ptr rfl Try.underlying37 rfl (sz_of Ty.inf2) (by decide)) ?_
      refine RG.op _ _ rfl rfl (o_load_ptr rfl Try.underlying2 rfl rfl rfl rfl) ?_
      refine RG.op _ _ rfl rfl (o_call Ty.cal43 (rzig_c _ (by first | omega | exact ubyte _ | (simp only [LS] <;> omega)) (by first | omega | exact ubyte _ | (simp only [LS] <;> omega))) ⟨.inl rfl, trivial⟩ (by exact pua rfl)) ?_
      refine RG.op _ _ rfl rfl (OpX.d (x_call Ty.cal42 (FunM.new1 (rputM_c _ (by first | omega | exact ubyte _ | (simp only [LS] <;> omega))) ⟨.v _, trivial⟩ (by repeat (first | exact pu_bytes _ | exact pu_nil | exact pu_vs rfl | exact pu_map (fun _ => .v _) _ | exact pu_vals _ | refine pu_app ?_ ?_ | refine pu_cons (by exact pu_of rfl) ?_))) ⟨.inl rfl, trivial⟩) (VLe.le (by repeat (first | exact trivial | refine And.intro (Nat.le_refl _) ?_ | refine And.intro trivial ?_ | refine And.intro (by show _ ≤ _; (first | omega | (simp only [LS] <;> omega))) ?_)))) ?_
      refine RG.op _ _ rfl rfl (o_assign (.own _ _ _ _ _) rfl) ?_
      refine RG.nil (h7_ _ ?_)
      refine WC.ret ?_
      exact Ends.r1 rfl (.tmp _ (.own _ _ _ _ _) rfl) (.tb rfl (by repeat (first | exact pu_bytes _ | exact pu_nil | exact pu_vs rfl | exact pu_map (fun _ => .v _) _ | exact pu_vals _ | refine pu_app ?_ ?_ | refine pu_cons (by exact pu_of rfl) ?_))) (by unfold oneR; rw [if_neg (by simpa using c2), if_pos (by simpa using c4)])
    ·
      have p4 := c4
      try simp only [CN] at p4
      refine WC.seq fun Fh8_ h8_ => ?_
      refine WC.region ?_
      refine RG.op _ _ rfl rfl (o_eqB (b := 3) rfl rfl) ?_
      refine RG.op _ _ rfl rfl (o_assign (.v _) rfl) ?_
      refine RG.nil (h8_ _ ?_)
      refine WC.cond _ rfl (fun c6 => ?_) (fun c6 => ?_)
      ·
        have p6 := c6
        try simp only [CN] at p6
        refine WC.seq fun Fh9_ h9_ => ?_
        refine WC.drawn3 (fun H => H[0]? = some (some ⟨[B8 v.k, I64 v.i, S v.t], 37, false, 0⟩)) (by kernel_rfl) (rfl) ?_
        refine PG.op _ rfl rfl rfl (fun _ hH => o_fld_ptr rfl Try.underlying37 rfl (sz_of Ty.inf9) (by decide)) ?_
        refine PG.op _ rfl rfl rfl (fun _ hH => o_load_ptr rfl Try.underlying9 rfl hH rfl rfl) ?_
        refine PG.op _ rfl rfl rfl (fun _ hH => o_lenS rfl Try.underlying9) ?_
        refine PG.op _ rfl rfl rfl (fun _ hH => (o_i64toU rfl Try.underlying3 Try.underlying72).cast (congrArg N64 hq)) ?_
        refine PG.opm _ _ rfl rfl rfl (OpX.d (x_call Ty.cal42 (FunM.new1 (rputM_c _ (by first | omega | exact ubyte _ | (simp only [LS] <;> omega))) ⟨.v _, trivial⟩ (by repeat (first | exact pu_bytes _ | exact pu_nil | exact pu_vs rfl | exact pu_map (fun _ => .v _) _ | exact pu_vals _ | refine pu_app ?_ ?_ | refine pu_cons (by exact pu_of rfl) ?_))) ⟨.inl rfl, trivial⟩) (VLe.le (by repeat (first | exact trivial | refine And.intro (Nat.le_refl _) ?_ | refine And.intro trivial ?_ | refine And.intro (by show _ ≤ _; (first | omega | (simp only [LS] <;> omega))) ?_)))) ?_
        refine PG.op _ rfl rfl rfl (fun _ hH => o_fld_ptr rfl Try.underlying37 rfl (sz_of Ty.inf9) (by decide)) ?_
        refine PG.op _ rfl rfl rfl (fun _ hH => o_load_ptr rfl Try.underlying9 rfl hH rfl rfl) ?_
        refine PG.opm _ _ rfl rfl rfl (o_appS (Elem.of Try.underlying22 Ty.inf5 rfl (by decide)) rfl rfl Try.underlying9 Ty.inf5 rfl (by first | omega | exact ubyte _ | (simp only [LS] <;> omega)) (by first | omega | exact ubyte _ | (simp only [LS] <;> omega)) (by first | omega | exact ubyte _ | (simp only [LS] <;> omega))) ?_
        refine PG.op _ rfl rfl rfl (fun _ hH => o_assign (.own _ _ _ _ _) rfl) ?_
        refine PG.nil ⟨by kernel_rfl, List.forall_mem_cons.2 ⟨noHs rfl, List.forall_mem_cons.2 ⟨noHs rfl, List.forall_mem_cons.2 ⟨noHs rfl, List.forall_mem_cons.2 ⟨noHs rfl, List.forall_mem_cons.2 ⟨fun _ => rfl, List.forall_mem_cons.2 ⟨noHs rfl, List.forall_mem_cons.2 ⟨noHs rfl, List.forall_mem_cons.2 ⟨fun _ => rfl, List.forall_mem_cons.2 ⟨noHs rfl, List.forall_mem_nil _⟩⟩⟩⟩⟩⟩⟩⟩⟩, (h9_ _ ?_)⟩
        refine WC.ret ?_
        exact Ends.r1 rfl (.tmp _ (.own _ _ _ _ _) rfl) (.tb rfl (by repeat (first | exact pu_bytes _ | exact pu_nil | exact pu_vs rfl | exact pu_map (fun _ => .v _) _ | exact pu_vals _ | refine pu_app ?_ ?_ | refine pu_cons (by exact pu_of rfl) ?_))) (by unfold oneR; rw [if_neg (by simpa using c2), if_neg (by simpa using c4), if_pos (by simpa using c6)]; exact rd_eq (by simp) (bytesD_app _ _).symm)
      ·
        have p6 := c6
        try simp only [CN] at p6
        refine WC.skip (h2_ _ ?_)
        refine WC.seq fun Fh10_ h10_ => ?_
        refine WC.region ?_
        refine RG.op _ _ rfl rfl (o_assign (.v _) rfl) ?_
        refine RG.nil (h10_ _ ?_)
        refine WC.ret ?_
        exact Ends.r1 rfl (.tmp _ (.v _) rfl) .nilr (by unfold oneR; rw [if_neg (by simpa using c2), if_neg (by simpa using c4), if_neg (by simpa using c6)]; rfl)
set_option maxHeartbeats 4000000 in
theorem rvalue_c (t : UInt8) (b : List UInt8) (ht : tyB t = true) (hb : b.length ≤ 10995116277760) : Fun Try.prog 36 [B8 t, rdB b] (· = VR (getR t b)) := by
  have hlt := vget_lt b
  have hvl := vget_len (b := b)
  refine Fun.of Try.func36 rfl (Nat.le_of_ble_eq_true rfl) fun C => ?_
  refine WC.seq fun Fh1_ h1_ => ?_
  refine WC.region ?_
  refine RG.op _ _ rfl rfl (o_alloc (z_of Ty.inf37) rfl) ?_
  refine RG.op _ _ rfl rfl (o_assign (.v _) rfl) ?_
  refine RG.op _ _ rfl rfl (o_assign (.v _) rfl) ?_
  refine RG.nil (h1_ _ ?_)
  refine WC.seq fun Fh2_ h2_ => ?_
  refine WC.seq fun Fh3_ h3_ => ?_
  refine WC.region ?_
  refine RG.op _ _ rfl rfl (o_move (.v _) rfl) ?_
  refine RG.op _ _ rfl rfl (o_eqB (b := 1) rfl rfl) ?_
  refine RG.nil (h3_ _ ?_)
  refine WC.cond _ rfl (fun c1 => ?_) (fun c1 => ?_)
  ·
    have p1 := c1
    try simp only [CN] at p1
    refine WC.seq fun Fh4_ h4_ => ?_
    refine WC.seq fun Fh5_ h5_ => ?_
    refine WC.region ?_
    refine RG.op _ _ rfl rfl (o_move (.rd _ _) rfl) ?_
    refine RG.op _ _ rfl rfl (o_len_rd rfl Try.underlying22) ?_
    refine RG.op _ _ rfl rfl (o_eqI rfl rfl) ?_
    refine RG.nil (h5_ _ ?_)
    refine WC.cond _ rfl (fun c2 => ?_) (fun c2 => ?_)
    ·
      have p2 := c2
      try simp only [CN] at p2
      refine WC.seq fun Fh6_ h6_ => ?_
      refine WC.region ?_
      refine RG.op _ _ rfl rfl (o_build (cs := [B8 0, I64 0, S []]) Try.underlying37 Ty.inf37 (Ty.pl37 Try.underlying37) rfl) ?_
      refine RG.op _ _ rfl rfl (o_store (d := (.agg [_, _, _])) rfl rfl rfl rfl (sz_of Ty.inf37) (Nat.le_of_ble_eq_true rfl) rfl) ?_
      refine RG.op _ _ rfl rfl (o_assign (.v _) rfl) ?_
      refine RG.op _ _ rfl rfl (o_assign (.v _) rfl) ?_
      refine RG.nil (h6_ _ ?_)
      refine WC.ret ?_
      exact Ends.r3 rfl (.agg rfl Try.underlying37 rfl (sz_of Ty.inf37) rfl rfl rfl) (.tmp _ (.v _) rfl) (.tmp _ (.v _) rfl) (.pure' (by exact pu_of rfl)) (.v _) (.v _) ((by show _ = VR (getR t b); unfold getR boolR; rw [if_pos (by simpa using c1), if_pos (by omega)]; rfl))
    ·
      have p2 := c2
      try simp only [CN] at p2
      refine WC.skip (h4_ _ ?_)
      refine WC.seq fun Fh7_ h7_ => ?_
      refine WC.seq fun Fh8_ h8_ => ?_
      refine WC.region ?_
      refine RG.op _ _ rfl rfl (o_move (.rd _ _) rfl) ?_
      refine RG.op _ _ rfl rfl (o_ixn_M 0 rfl rfl Try.underlying22 (sz_of Ty.inf5) (by first | omega | exact ubyte _ | (simp only [LS] <;> omega)) (by first | omega | exact ubyte _ | (simp only [LS] <;> omega))) ?_
      refine RG.op _ _ rfl rfl (o_load_adr rfl Try.underlying5 rfl rfl) ?_
      refine RG.op _ _ rfl rfl (o_gtB (b := 1) rfl rfl) ?_
      refine RG.nil (h8_ _ ?_)
      refine WC.cond _ rfl (fun c4 => ?_) (fun c4 => ?_)
      ·
        have p4 := c4
        try simp only [CN] at p4
        refine WC.seq fun Fh9_ h9_ => ?_
        refine WC.region ?_
        refine RG.op _ _ rfl rfl (o_build (cs := [B8 0, I64 0, S []]) Try.underlying37 Ty.inf37 (Ty.pl37 Try.underlying37) rfl) ?_
        refine RG.op _ _ rfl rfl (o_store (d := (.agg [_, _, _])) rfl rfl rfl rfl (sz_of Ty.inf37) (Nat.le_of_ble_eq_true rfl) rfl) ?_
        refine RG.op _ _ rfl rfl (o_assign (.v _) rfl) ?_
        refine RG.op _ _ rfl rfl (o_assign (.v _) rfl) ?_
        refine RG.nil (h9_ _ ?_)
        refine WC.ret ?_
        exact Ends.r3 rfl (.agg rfl Try.underlying37 rfl (sz_of Ty.inf37) rfl rfl rfl) (.tmp _ (.v _) rfl) (.tmp _ (.v _) rfl) (.pure' (by exact pu_of rfl)) (.v _) (.v _) ((by show _ = VR (getR t b); unfold getR boolR; rw [if_pos (by simpa using c1), if_neg (by omega), ← gd_at (by omega), if_pos p4]; rfl))
      ·
        have p4 := c4
        try simp only [CN] at p4
        refine WC.skip (h7_ _ ?_)
        refine WC.seq fun Fh10_ h10_ => ?_
        refine WC.region ?_
        refine RG.op _ _ rfl rfl (o_move (.v _) rfl) ?_
        refine RG.op _ _ rfl rfl (o_move (.rd _ _) rfl) ?_
        refine RG.op _ _ rfl rfl (o_ixn_M 0 rfl rfl Try.underlying22 (sz_of Ty.inf5) (by first | omega | exact ubyte _ | (simp only [LS] <;> omega)) (by first | omega | exact ubyte _ | (simp only [LS] <;> omega))) ?_
        refine RG.op _ _ rfl rfl (o_load_adr rfl Try.underlying5 rfl rfl) ?_
        refine RG.op _ _ rfl rfl (o_BtoI rfl Try.underlying5 Try.underlying2) ?_
        refine RG.op _ _ rfl rfl (o_build (cs := [(.v _), (.v _), S []]) Try.underlying37 Ty.inf37 (Ty.pl37 Try.underlying37) rfl) ?_
        refine RG.op _ _ rfl rfl (o_store (d := (.agg [_, _, _])) rfl rfl rfl rfl (sz_of Ty.inf37) (Nat.le_of_ble_eq_true rfl) rfl) ?_
        refine RG.op _ _ rfl rfl (o_assign (.v _) rfl) ?_
        refine RG.op _ _ rfl rfl (o_assign (.v _) rfl) ?_
        refine RG.nil (h10_ _ ?_)
        refine WC.ret ?_
        exact Ends.r3 rfl (.agg rfl Try.underlying37 rfl (sz_of Ty.inf37) rfl rfl rfl) (.tmp _ (.v _) rfl) (.tmp _ (.v _) rfl) (.pure' (by exact pu_of rfl)) (.v _) (.v _) ((by have e : t = 1 := (by simpa using c1); show _ = VR (getR t b); unfold getR boolR; rw [if_pos e, if_neg (by omega), ← gd_at (by omega), if_neg p4, e]; rfl))
  ·
    have p1 := c1
    try simp only [CN] at p1
    refine WC.skip (h2_ _ ?_)
    refine WC.seq fun Fh11_ h11_ => ?_
    refine WC.region ?_
    refine RG.op _ _ rfl rfl (o_move (.rd _ _) rfl) ?_
    refine RG.op _ _ rfl rfl (o_call Ty.cal46 (rget_c _ (by first | omega | exact ubyte _ | (simp only [LS] <;> omega))) ⟨.inl rfl, trivial⟩ (by exact pua rfl)) ?_
    refine RG.op _ _ rfl rfl (o_move (.tup _) rfl) ?_
    refine RG.op _ _ rfl rfl (o_extract rfl rfl) ?_
    refine RG.op _ _ rfl rfl (o_extract rfl rfl) ?_
    refine RG.op _ _ rfl rfl (o_extract rfl rfl) ?_
    refine RG.op _ _ rfl rfl (o_assign (.v _) rfl) ?_
    refine RG.op _ _ rfl rfl (o_assign (.v _) rfl) ?_
    refine RG.op _ _ rfl rfl (o_assign (.v _) rfl) ?_
    refine RG.nil (h11_ _ ?_)
    refine WC.seq fun Fh12_ h12_ => ?_
    refine WC.seq fun Fh13_ h13_ => ?_
    refine WC.region ?_
    refine RG.op _ _ rfl rfl (o_move (.v _) rfl) ?_
    refine RG.op _ _ rfl rfl (o_neI rfl rfl) ?_
    refine RG.nil (h13_ _ ?_)
    refine WC.cond _ rfl (fun c8 => ?_) (fun c8 => ?_)
    ·
      have p8 := c8
      try simp only [CN] at p8
      refine WC.seq fun Fh14_ h14_ => ?_
      refine WC.region ?_
      refine RG.op _ _ rfl rfl (o_build (cs := [B8 0, I64 0, S []]) Try.underlying37 Ty.inf37 (Ty.pl37 Try.underlying37) rfl) ?_
      refine RG.op _ _ rfl rfl (o_move (.v _) rfl) ?_
      refine RG.op _ _ rfl rfl (o_store (d := (.agg [_, _, _])) rfl rfl rfl rfl (sz_of Ty.inf37) (Nat.le_of_ble_eq_true rfl) rfl) ?_
      refine RG.op _ _ rfl rfl (o_assign (.v _) rfl) ?_
      refine RG.op _ _ rfl rfl (o_assign (.v _) rfl) ?_
      refine RG.nil (h14_ _ ?_)
      refine WC.ret ?_
      exact Ends.r3 rfl (.agg rfl Try.underlying37 rfl (sz_of Ty.inf37) rfl rfl rfl) (.tmp _ (.v _) rfl) (.tmp _ (.v _) rfl) (.pure' (by exact pu_of rfl)) (.v _) (.v _) ((by show _ = VR (getR t b); unfold getR; rw [if_neg (by simpa using c1)]; by_cases e2 : t = 2; (rw [if_pos e2]; unfold intR; rw [if_neg (by omega)]; rfl); (rw [if_neg e2]; unfold textRR; rw [if_neg (by omega)]; rfl)))
    ·
      have p8 := c8
      try simp only [CN] at p8
      refine WC.skip (h12_ _ ?_)
      refine WC.seq fun Fh15_ h15_ => ?_
      refine WC.seq fun Fh16_ h16_ => ?_
      refine WC.region ?_
      refine RG.op _ _ rfl rfl (o_move (.v _) rfl) ?_
      refine RG.op _ _ rfl rfl (o_eqB (b := 2) rfl rfl) ?_
      refine RG.nil (h16_ _ ?_)
      refine WC.cond _ rfl (fun c10 => ?_) (fun c10 => ?_)
      ·
        have p10 := c10
        try simp only [CN] at p10
        refine WC.seq fun Fh17_ h17_ => ?_
        refine WC.region ?_
        refine RG.op _ _ rfl rfl (o_move (.v _) rfl) ?_
        refine RG.op _ _ rfl rfl (o_move (.v _) rfl) ?_
        refine RG.op _ _ rfl rfl (o_call Ty.cal47 (rzag_c _ (by first | omega | exact ubyte _ | (simp only [LS] <;> omega))) ⟨.inl rfl, trivial⟩ (by exact pua rfl)) ?_
        refine RG.op _ _ rfl rfl (o_build (cs := [(.v _), (.v _), S []]) Try.underlying37 Ty.inf37 (Ty.pl37 Try.underlying37) rfl) ?_
        refine RG.op _ _ rfl rfl (o_move (.v _) rfl) ?_
        refine RG.op _ _ rfl rfl (o_store (d := (.agg [_, _, _])) rfl rfl rfl rfl (sz_of Ty.inf37) (Nat.le_of_ble_eq_true rfl) rfl) ?_
        refine RG.op _ _ rfl rfl (o_assign (.v _) rfl) ?_
        refine RG.op _ _ rfl rfl (o_assign (.v _) rfl) ?_
        refine RG.nil (h17_ _ ?_)
        refine WC.ret ?_
        exact Ends.r3 rfl (.agg rfl Try.underlying37 rfl (sz_of Ty.inf37) rfl rfl rfl) (.tmp _ (.v _) rfl) (.tmp _ (.v _) rfl) (.pure' (by exact pu_of rfl)) (.v _) (.v _) ((by have e : t = 2 := (by simpa using c10); show _ = VR (getR t b); unfold getR; rw [if_neg (by simpa using c1), if_pos e]; unfold intR; rw [if_pos (by omega), e]; rfl))
      ·
        have p10 := c10
        try simp only [CN] at p10
        have e3 : t = 3 := (by rcases tyB_cases ht with h | h | h; exact absurd h (by simpa using c1); exact absurd h (by simpa using c10); exact h)
        refine WC.skip (h15_ _ ?_)
        refine WC.seq fun Fh18_ h18_ => ?_
        refine WC.seq fun Fh19_ h19_ => ?_
        refine WC.region ?_
        refine RG.op _ _ rfl rfl (o_move (.v _) rfl) ?_
        refine RG.op _ _ rfl rfl (o_move (.rd _ _) rfl) ?_
        refine RG.op _ _ rfl rfl (o_len_rd rfl Try.underlying22) ?_
        refine RG.op _ _ rfl rfl (o_move (.v _) rfl) ?_
        refine RG.op _ _ rfl rfl (o_sub rfl rfl (by first | omega | exact ubyte _ | (simp only [LS] <;> omega)) (by first | omega | exact ubyte _ | (simp only [LS] <;> omega))) ?_
        refine RG.op _ _ rfl rfl (o_i64toU rfl Try.underlying3 Try.underlying72) ?_
        refine RG.op _ _ rfl rfl (o_gtI rfl rfl) ?_
        refine RG.nil (h19_ _ ?_)
        refine WC.cond _ rfl (fun c12 => ?_) (fun c12 => ?_)
        ·
          have p12 := c12
          try simp only [CN] at p12
          refine WC.seq fun Fh20_ h20_ => ?_
          refine WC.region ?_
          refine RG.op _ _ rfl rfl (o_build (cs := [B8 0, I64 0, S []]) Try.underlying37 Ty.inf37 (Ty.pl37 Try.underlying37) rfl) ?_
          refine RG.op _ _ rfl rfl (o_store (d := (.agg [_, _, _])) rfl rfl rfl rfl (sz_of Ty.inf37) (Nat.le_of_ble_eq_true rfl) rfl) ?_
          refine RG.op _ _ rfl rfl (o_assign (.v _) rfl) ?_
          refine RG.op _ _ rfl rfl (o_assign (.v _) rfl) ?_
          refine RG.nil (h20_ _ ?_)
          refine WC.ret ?_
          exact Ends.r3 rfl (.agg rfl Try.underlying37 rfl (sz_of Ty.inf37) rfl rfl rfl) (.tmp _ (.v _) rfl) (.tmp _ (.v _) rfl) (.pure' (by exact pu_of rfl)) (.v _) (.v _) ((by show _ = VR (getR t b); unfold getR; rw [if_neg (by simpa using c1), if_neg (by simpa using c10)]; unfold textRR; rw [if_pos (by omega), if_pos (by omega)]; rfl))
        ·
          have p12 := c12
          try simp only [CN] at p12
          have hu : (vget b).1 ≤ b.length - (vget b).2.1 := by omega
          have hs : sgn (vget b).1 = ((vget b).1 : Int) := by unfold sgn; rw [if_pos (by omega)]
          refine WC.skip (h18_ _ ?_)
          refine WC.seq fun Fh21_ h21_ => ?_
          refine WC.region ?_
          refine RG.op _ _ rfl rfl (o_move (.v _) rfl) ?_
          refine RG.op _ _ rfl rfl (o_move (.rd _ _) rfl) ?_
          refine RG.op _ _ rfl rfl (o_move (.v _) rfl) ?_
          refine RG.op _ _ rfl rfl (o_move (.v _) rfl) ?_
          refine RG.op _ _ rfl rfl (o_move (.v _) rfl) ?_
          refine RG.op _ _ rfl rfl (o_UtoI64 rfl (by first | omega | exact ubyte _ | (simp only [LS] <;> omega)) Try.underlying72 Try.underlying3) ?_
          refine RG.op _ _ rfl rfl ((o_add rfl rfl (by omega) (by omega)).cast (congrArg I64 (show ((vget b).2.1 : Int) + sgn (vget b).1 = (((vget b).2.1 + (vget b).1 : Nat) : Int) by omega))) ?_
          refine RG.op _ _ rfl rfl (o_partM (l := b) (g := fun b => U8 b.toBitVec) (vget b).2.1 ((vget b).2.1 + (vget b).1) rfl rfl rfl Try.underlying22 (sz_of Ty.inf5) (by omega) (by omega) (by omega) (by omega)) ?_
          refine RG.op _ _ rfl rfl (o_str_rd rfl Try.underlying22 Try.underlying5 Try.underlying9) ?_
          refine RG.op _ _ rfl rfl (o_build (cs := [(.v _), I64 0, (.v _)]) Try.underlying37 Ty.inf37 (Ty.pl37 Try.underlying37) rfl) ?_
          refine RG.op _ _ rfl rfl (o_move (.v _) rfl) ?_
          refine RG.op _ _ rfl rfl (o_move (.v _) rfl) ?_
          refine RG.op _ _ rfl rfl (o_UtoI64 rfl (by first | omega | exact ubyte _ | (simp only [LS] <;> omega)) Try.underlying72 Try.underlying3) ?_
          refine RG.op _ _ rfl rfl ((o_add rfl rfl (by omega) (by omega)).cast (congrArg I64 (show ((vget b).2.1 : Int) + sgn (vget b).1 = (((vget b).2.1 + (vget b).1 : Nat) : Int) by omega))) ?_
          refine RG.op _ _ rfl rfl (o_store (d := (.agg [_, _, _])) rfl rfl rfl rfl (sz_of Ty.inf37) (Nat.le_of_ble_eq_true rfl) rfl) ?_
          refine RG.op _ _ rfl rfl (o_assign (.v _) rfl) ?_
          refine RG.op _ _ rfl rfl (o_assign (.v _) rfl) ?_
          refine RG.nil (h21_ _ ?_)
          refine WC.ret ?_
          exact Ends.r3 rfl (.agg rfl Try.underlying37 rfl (sz_of Ty.inf37) rfl rfl rfl) (.tmp _ (.v _) rfl) (.tmp _ (.v _) rfl) (.pure' (by exact pu_of rfl)) (.v _) (.v _) ((by show _ = VR (getR t b); unfold getR; rw [if_neg (by simpa using c1), if_neg (by simpa using c10)]; unfold textRR; rw [if_pos (by omega), if_neg (by omega), Nat.add_sub_cancel_left, e3]; rfl))
end Go.Proofs.Ytbdibcpenihpdaa
