/-
  Layer ints: readers; the laws of what is read; law IntsKnown. No condition.
-/
import Derived.Test.YtbdibcpenihpdaaI13
import Derived.Test.YtbdibcpenihpdaaDlU
set_option linter.unusedSimpArgs false
set_option linter.unusedVariables false
namespace Go.Proofs.Ytbdibcpenihpdaa
open Go.RowKit Go.DL

theorem bytesR : Rds Try.prog 22 (fun l : List UInt8 => l.length ≤ 9223372036854775807) (fun l => [rdB l]) := by exact Rds.bytes Try.underlying22 rfl Try.underlying5
theorem i64R : Rds Try.prog 2 (fun n : Int => -9223372036854775808 ≤ n ∧ n ≤ 9223372036854775807) (fun n => [I64 n]) := by exact Rds.i64 Try.underlying2
theorem intR' : Rds Try.prog 3 (fun n : Int => -9223372036854775808 ≤ n ∧ n ≤ 9223372036854775807) (fun n => [I64 n]) := by exact Rds.i64 Try.underlying3
theorem u16R : Rds Try.prog 49 (fun n : Nat => n ≤ 65535) (fun n => [.v (.int .u16 (n : Int))]) := by exact Rds.nat Try.underlying49 rfl rfl
theorem igets_r (b : List UInt8) (hb : b.length ≤ 9223372036854775807) (n : Int) (_ : in64 n) : Fun Try.prog 10 [rdB b, I64 n] (· = Bo true) := gets5_c b n hb
theorem iback_r (l : List Int) (hl : (∀ x ∈ l, in64 x) ∧ l.length ≤ 9223372036854775807) (n : Int) (_ : in64 n) (b : List UInt8) (hb : b.length ≤ 9223372036854775807) : Fun Try.prog 11 [rdI l, I64 n, rdB b] (· = Bo true) := back5_c l n b hl.1 hl.2 hb
theorem ieven_r (v : Int) (hv : in64 v) (st : Int) (hs : in64 st) (m : Nat) (hm : m ≤ 65535) : Fun Try.prog 12 [I64 v, I64 st, .v (.int .u16 (m : Int))] (· = Bo true) := even5_c v st m hv hs hm
theorem ishift_r (l : List Int) (hl : (∀ x ∈ l, in64 x) ∧ l.length ≤ 9223372036854775807) (y : Int) (_ : in64 y) : Fun Try.prog 13 [rdI l, I64 y] (· = Bo true) := shift5_c l y hl.1 hl.2
/-! ### The chapter's examples -/
def kn5 : List (List UInt8 × Int × Int) := [([1, 20, 3, 0], 5, 20), ([1, 20, 3, 0], 3, 21), ([0, 0], 1, 21), ([1, 20, 1, 0, 2, 0], 4, 21), ([], 0, 0), ([1], 0, 21), ([], 1, 20), ([1], 1, 20), ([128, 0, 0], 1, 21), ([1, 128], 1, 20), ([], -1, 1), ([], 65537, 1), ([128, 128, 4, 0], 65536, 0), ([1, 0, 1], 1, 21)]
def kc5 (p : List UInt8 × Int × Int) : List D := [S p.1, I64 p.2.1, I64 p.2.2]
theorem kc5_len (p : List UInt8 × Int × Int) : (kc5 p).length = 3 := rfl
theorem kn5_len : ∀ p ∈ kn5, p.1.length ≤ 10 := by decide +kernel
theorem expR_one (m : Nat) (d : Int) : expR [(m, d)] = List.replicate m d := by simp [expR]
theorem big5 : getI5 [128, 128, 4, 0] 65536 = (List.replicate 65536 0, 0) := by
  have hb : ([128, 128, 4, 0] : List UInt8) = [(65536, 0)].flatMap encP := by
    show _ = encB 65536 ++ encB (zigN 0) ++ []
    rw [encB_big (by omega), encB_big (by omega), encB_small (by omega), show zigN 0 = 0 by decide, encB_small (by omega)]; rfl
  have h := (gG_runs [128, 128, 4, 0] 65536 [(65536, 0)] 0 [] ⟨by decide, (fun q h => by cases h), trivial⟩ (fun p hp => by rw [List.mem_singleton] at hp; subst hp; exact ⟨by decide, by decide, by decide⟩) hb (Nat.zero_le _) (Nat.zero_le _) (fun h => absurd h (Nat.lt_irrefl _))).1 (by rw [expR_one, List.length_replicate]; rfl)
  unfold getI5
  rw [if_neg (by decide)]
  show gG _ 65536 0 [] = _
  rw [h, expR_one]; rfl
theorem rest5 : ∀ p ∈ kn5, p.2.1 ≠ 65536 → ((getI5 p.1 p.2.1).2 : Int) = p.2.2 ∧ (p.2.2 = 0 → ((getI5 p.1 p.2.1).1.length : Int) = p.2.1) := by decide +kernel
theorem kn5_ok {p : List UInt8 × Int × Int} (h : p ∈ kn5) : ((getI5 p.1 p.2.1).2 : Int) = p.2.2 ∧ (p.2.2 = 0 → ((getI5 p.1 p.2.1).1.length : Int) = p.2.1) := by
  by_cases e : p.2.1 = 65536
  · have : ∀ p ∈ kn5, p.2.1 = 65536 → p = ([128, 128, 4, 0], 65536, 0) := by decide +kernel
    have := this p h e
    subst this
    show ((getI5 [128, 128, 4, 0] 65536).2 : Int) = 0 ∧ (_ → ((getI5 [128, 128, 4, 0] 65536).1.length : Int) = 65536)
    rw [big5]
    exact ⟨rfl, fun _ => by rw [List.length_replicate]; rfl⟩
  · exact rest5 p h e
theorem put555 : putI5 [5, 5, 5] = [1, 10, 1, 9, 1, 0] := by
  have e : runsM [5, 5, 5] = [(1, 5), (1, -5), (1, 0)] := by decide +kernel
  have z1 : zigN 5 = 10 := by decide
  have z2 : zigN (-5) = 9 := by decide
  have z3 : zigN 0 = 0 := by decide
  unfold putI5
  rw [e]
  simp only [List.flatMap_cons, List.flatMap_nil, encP, z1, z2, z3]
  rw [encB_small (u := 1) (by omega), encB_small (u := 10) (by omega), encB_small (u := 9) (by omega), encB_small (u := 0) (by omega)]
  rfl
theorem putNil : putI5 [] = [] := rfl
theorem putMin : putI5 [-9223372036854775808] = [1, 255, 255, 255, 255, 255, 255, 255, 255, 255, 1] := by
  have e : runsM [-9223372036854775808] = [(1, -9223372036854775808)] := by decide +kernel
  have z1 : zigN (-9223372036854775808) = 18446744073709551615 := by decide
  unfold putI5
  rw [e]
  simp only [List.flatMap_cons, List.flatMap_nil, encP, z1]
  rw [encB_small (u := 1) (by omega)]
  iterate 9 rw [encB_big (by omega)]
  rw [encB_small (by omega)]
  rfl
set_option maxRecDepth 20000 in
set_option maxHeartbeats 4000000 in
theorem known5_c : Fun Try.prog 14 [] (· = Bo true) := by
  refine Fun.of Try.func14 rfl (Nat.le_of_ble_eq_true rfl) fun C => ?_
  refine WC.seq fun Fh1_ h1_ => ?_
  refine WC.region ?_
  refine RG.op _ _ rfl rfl (o_assign (.v _) rfl) ?_
  refine RG.nil (h1_ _ ?_)
  refine WC.seq fun Fh2_ h2_ => ?_
  refine WC.region ?_
  refine RG.op _ _ rfl rfl (o_build (cs := [(S ([1, 20, 3, 0] : List UInt8)), (.v _), (.v _)]) Try.underlying53 Ty.inf53 (Ty.pl53 Try.underlying53) rfl) ?_
  refine RG.op _ _ rfl rfl (o_build (cs := [(S ([1, 20, 3, 0] : List UInt8)), (.v _), (.v _)]) Try.underlying53 Ty.inf53 (Ty.pl53 Try.underlying53) rfl) ?_
  refine RG.op _ _ rfl rfl (o_build (cs := [(S ([0, 0] : List UInt8)), (.v _), (.v _)]) Try.underlying53 Ty.inf53 (Ty.pl53 Try.underlying53) rfl) ?_
  refine RG.op _ _ rfl rfl (o_build (cs := [(S ([1, 20, 1, 0, 2, 0] : List UInt8)), (.v _), (.v _)]) Try.underlying53 Ty.inf53 (Ty.pl53 Try.underlying53) rfl) ?_
  refine RG.op _ _ rfl rfl (o_build (cs := [(S ([] : List UInt8)), (.v _), (.v _)]) Try.underlying53 Ty.inf53 (Ty.pl53 Try.underlying53) rfl) ?_
  refine RG.op _ _ rfl rfl (o_build (cs := [(S ([1] : List UInt8)), (.v _), (.v _)]) Try.underlying53 Ty.inf53 (Ty.pl53 Try.underlying53) rfl) ?_
  refine RG.op _ _ rfl rfl (o_build (cs := [(S ([] : List UInt8)), (.v _), (.v _)]) Try.underlying53 Ty.inf53 (Ty.pl53 Try.underlying53) rfl) ?_
  refine RG.op _ _ rfl rfl (o_build (cs := [(S ([1] : List UInt8)), (.v _), (.v _)]) Try.underlying53 Ty.inf53 (Ty.pl53 Try.underlying53) rfl) ?_
  refine RG.op _ _ rfl rfl (o_build (cs := [(S ([128, 0, 0] : List UInt8)), (.v _), (.v _)]) Try.underlying53 Ty.inf53 (Ty.pl53 Try.underlying53) rfl) ?_
  refine RG.op _ _ rfl rfl (o_build (cs := [(S ([1, 128] : List UInt8)), (.v _), (.v _)]) Try.underlying53 Ty.inf53 (Ty.pl53 Try.underlying53) rfl) ?_
  refine RG.op _ _ rfl rfl (o_build (cs := [(S ([] : List UInt8)), (.v _), (.v _)]) Try.underlying53 Ty.inf53 (Ty.pl53 Try.underlying53) rfl) ?_
  refine RG.op _ _ rfl rfl (o_build (cs := [(S ([] : List UInt8)), (.v _), (.v _)]) Try.underlying53 Ty.inf53 (Ty.pl53 Try.underlying53) rfl) ?_
  refine RG.op _ _ rfl rfl (o_build (cs := [(S ([128, 128, 4, 0] : List UInt8)), (.v _), (.v _)]) Try.underlying53 Ty.inf53 (Ty.pl53 Try.underlying53) rfl) ?_
  refine RG.op _ _ rfl rfl (o_build (cs := [(S ([1, 0, 1] : List UInt8)), (.v _), (.v _)]) Try.underlying53 Ty.inf53 (Ty.pl53 Try.underlying53) rfl) ?_
  refine RG.op _ _ rfl rfl (o_litP (cs := [_, _, _, _, _, _, _, _, _, _, _, _, _, _, _, _, _, _, _, _, _, _, _, _, _, _, _, _, _, _, _, _, _, _, _, _, _, _, _, _, _, _]) Try.underlying54 Ty.inf53 rfl rfl rfl rfl (by repeat (first | exact pu_bytes _ | exact pu_nil | exact pu_vs rfl | exact pu_map (fun _ => .v _) _ | exact pu_vals _ | refine pu_app ?_ ?_ | refine pu_cons (by exact pu_of rfl) ?_))) ?_
  refine RG.op _ _ rfl rfl (o_assign (.rd _ _) rfl) ?_
  refine RG.nil (h2_ _ ?_)
  refine WC.seq fun Fh3_ h3_ => ?_
  refine WC.seq fun Fh4_ h4_ => ?_
  refine WC.region ?_
  refine RG.op _ _ rfl rfl (o_assign (.v _) rfl) ?_
  refine RG.nil (h4_ _ ?_)
  refine WC.block ?_
  refine WC.loopU [0, 2, 3, 4, 20, 21, 22, 23, 24, 25, 26, 27, 28, 29, 30, 31, 32, 33, 34, 35, 36, 37, 38, 39, 40, 41, 42, 43, 44, 45, 46, 47, 48, 49, 50, 51, 52, 53, 54, 55, 56, 57, 58, 59, 60, 61, 62, 63, 64, 65, 66, 67, 68, 69, 70] (fun (k : Nat) => [(2, I64 ((k : Nat) : Int))]) (fun (k : Nat) => []) (fun (k : Nat) => k ≤ 14) (fun (k : Nat) => 14 - k) 0 (by first | omega | exact ubyte _ | (simp only [LS, nS_len] <;> omega)) ?lpa5_ ?lpb6_
  case lpa5_ =>
    exact .mk' ⟨⟨rfl, .v _⟩, trivial⟩ (same_refl _ _) (rfl) (by repeat (first | exact trivial | refine And.intro (Nat.le_refl _) ?_ | refine And.intro trivial ?_ | refine And.intro (by show _ ≤ _; (first | omega | (simp only [LS, nS_len] <;> omega))) ?_)) (by repeat (first | exact trivial | refine And.intro (one_ok (.own _ _ _ _ _ (Nat.le_refl _))) ?_ | refine And.intro (okp (by repeat (first | exact pu_bytes _ | exact pu_nil | exact pu_vs rfl | exact pu_map (fun _ => .v _) _ | exact pu_vals _ | refine pu_app ?_ ?_ | refine pu_cons (by exact pu_of rfl) ?_))) ?_))
  case lpb6_ =>
    rintro k hI
    refine WC.seq fun Fh7_ h7_ => ?_
    refine WC.seq fun Fh8_ h8_ => ?_
    refine WC.region ?_
    refine RG.op _ _ rfl rfl (o_move (.v _) rfl) ?_
    refine RG.op _ _ rfl rfl (o_move (.rd _ _) rfl) ?_
    refine RG.op _ _ rfl rfl (o_len_rd rfl Try.underlying54) ?_
    refine RG.op _ _ rfl rfl (o_ltI rfl rfl) ?_
    refine RG.nil (h8_ _ ?_)
    refine WC.cond _ rfl (fun c3 => ?_) (fun c3 => ?_)
    ·
      have p3 := c3
      try simp only [CN] at p3
      have hk : k < kn5.length := by show k < 14; omega
      have hq := kn5_len _ (List.getElem_mem hk)
      have ho := kn5_ok (List.getElem_mem hk)
      have hgn := nS_len (getI5 (kn5[k]'hk).1 (kn5[k]'hk).2.1).1
      refine WC.skip (h7_ _ ?_)
      refine WC.seq fun Fh9_ h9_ => ?_
      refine WC.block ?_
      refine WC.seq fun Fh10_ h10_ => ?_
      refine WC.drawn1 (by kernel_rfl) ?_
      refine PG.op _ rfl rfl rfl (by rintro _ rfl; exact o_move (.rd _ _) rfl) ?_
      refine PG.op _ rfl rfl rfl (by rintro _ rfl; exact o_move (.v _) rfl) ?_
      refine PG.op _ rfl rfl rfl (by rintro _ rfl; exact o_ixn_L (l := kn5) (f := kc5) k kc5_len rfl rfl rfl Try.underlying54 (sz_of Ty.inf53) rfl hk) ?_
      refine PG.op _ rfl rfl rfl (by rintro _ rfl; exact o_fld_adr rfl Try.underlying53 rfl (sz_of Ty.inf9) (by decide)) ?_
      refine PG.op _ rfl rfl rfl (by rintro _ rfl; exact o_load_adr rfl Try.underlying9 rfl rfl) ?_
      refine PG.op _ rfl rfl rfl (by rintro _ rfl; exact o_bytes rfl Try.underlying9 Try.underlying22 Try.underlying5) ?_
      refine PG.op _ rfl rfl rfl (by rintro _ rfl; exact o_move (.rd _ _) rfl) ?_
      refine PG.op _ rfl rfl rfl (by rintro _ rfl; exact o_move (.v _) rfl) ?_
      refine PG.op _ rfl rfl rfl (by rintro _ rfl; exact o_ixn_L (l := kn5) (f := kc5) k kc5_len rfl rfl rfl Try.underlying54 (sz_of Ty.inf53) rfl hk) ?_
      refine PG.op _ rfl rfl rfl (by rintro _ rfl; exact o_fld_adr rfl Try.underlying53 rfl (sz_of Ty.inf3) (by decide)) ?_
      refine PG.op _ rfl rfl rfl (by rintro _ rfl; exact o_load_adr rfl Try.underlying3 rfl rfl) ?_
      refine PG.op _ rfl rfl rfl (by rintro _ rfl; exact (by exact o_call (ds := [rdB (kn5[k]'hk).1, I64 (kn5[k]'hk).2.1]) Ty.cal28 (geti_c _ _ (by omega)) ⟨.inl rfl, .inl rfl, trivial⟩ (by exact pua rfl))) ?_
      refine PG.op _ rfl rfl rfl (by rintro _ rfl; exact o_move (.tup _) rfl) ?_
      refine PG.op _ rfl rfl rfl (by rintro _ rfl; exact o_extract rfl rfl) ?_
      refine PG.op _ rfl rfl rfl (by rintro _ rfl; exact o_extract rfl rfl) ?_
      refine PG.op _ rfl rfl rfl (by rintro _ rfl; exact o_assign (.rd _ _) rfl) ?_
      refine PG.op _ rfl rfl rfl (by rintro _ rfl; exact o_assign (.v _) rfl) ?_
      refine PG.nil ⟨by kernel_rfl, rfl, (h10_ _ ?_)⟩
      refine WC.seq fun Fh11_ h11_ => ?_
      refine WC.region ?_
      refine RG.op _ _ rfl rfl (o_move (.v _) rfl) ?_
      refine RG.op _ _ rfl rfl (o_move (.rd _ _) rfl) ?_
      refine RG.op _ _ rfl rfl (o_move (.v _) rfl) ?_
      refine RG.op _ _ rfl rfl (o_ixn_L (l := kn5) (f := kc5) k kc5_len rfl rfl rfl Try.underlying54 (sz_of Ty.inf53) rfl hk) ?_
      refine RG.op _ _ rfl rfl (o_fld_adr rfl Try.underlying53 rfl (sz_of Ty.inf25) (by decide)) ?_
      refine RG.op _ _ rfl rfl (o_load_adr rfl Try.underlying25 rfl rfl) ?_
      refine RG.op _ _ rfl rfl (o_neI rfl rfl) ?_
      refine RG.op _ _ rfl rfl (o_move (.v _) rfl) ?_
      refine RG.opg1 _ _ _ _ _ rfl rfl rfl rfl rfl (fun hb => o_move (.v _) rfl) ?_
      refine RG.opg1 _ _ _ _ _ rfl rfl rfl rfl rfl (fun hb => o_neI (gdT hb) rfl) ?_
      refine RG.opg1 _ _ _ _ _ rfl rfl rfl rfl rfl (fun hb => o_move (.v _) (gdT hb)) ?_
      refine RG.opg2 _ _ _ _ _ _ rfl rfl rfl rfl rfl (fun hb => o_move (.rd _ _) rfl) ?_
      refine RG.opg2 _ _ _ _ _ _ rfl rfl rfl rfl rfl (fun hb => o_len_rd (gdT hb) Try.underlying41) ?_
      refine RG.opg2 _ _ _ _ _ _ rfl rfl rfl rfl rfl (fun hb => o_neI (gdT hb) rfl) ?_
      refine RG.opg1 _ _ _ _ _ rfl rfl rfl rfl rfl (fun hb => o_and _ _ (gdT hb) (gdS hb) rfl) ?_
      refine RG.op _ _ rfl rfl (o_or _ _ rfl rfl rfl) ?_
      refine RG.op _ _ rfl rfl (o_move (.v _) rfl) ?_
      refine RG.opg1 _ _ _ _ _ rfl rfl rfl rfl rfl (fun hb => o_move (.v _) rfl) ?_
      refine RG.opg1 _ _ _ _ _ rfl rfl rfl rfl rfl (fun hb => o_eqI (gdT hb) rfl) ?_
      refine RG.opg1 _ _ _ _ _ rfl rfl rfl rfl rfl (fun hb => o_move (.v _) (gdT hb)) ?_
      refine RG.opg2 _ _ _ _ _ _ rfl rfl rfl rfl rfl (fun hb => o_move (.rd _ _) rfl) ?_
      refine RG.opg2 _ _ _ _ _ _ rfl rfl rfl rfl rfl (fun hb => o_len_rd (gdT hb) Try.underlying41) ?_
      refine RG.opg2 _ _ _ _ _ _ rfl rfl rfl rfl rfl (fun hb => o_move (.rd _ _) rfl) ?_
      refine RG.opg2 _ _ _ _ _ _ rfl rfl rfl rfl rfl (fun hb => o_move (.v _) rfl) ?_
      refine RG.opg2 _ _ _ _ _ _ rfl rfl rfl rfl rfl (fun hb => (by exact o_ixn_LZ (l := kn5) (f := kc5) ([], 0, 0) k kc5_len rfl (gdT hb) (gdT hb) Try.underlying54 (sz_of Ty.inf53) rfl hk)) ?_
      refine RG.opg2 _ _ _ _ _ _ rfl rfl rfl rfl rfl (fun hb => o_fld_adr (gdT hb) Try.underlying53 rfl (sz_of Ty.inf3) (by decide)) ?_
      refine RG.opg2 _ _ _ _ _ _ rfl rfl rfl rfl rfl (fun hb => o_load_adr (gdT hb) Try.underlying3 rfl rfl) ?_
      refine RG.opg2 _ _ _ _ _ _ rfl rfl rfl rfl rfl (fun hb => o_neI (gdT hb) (gdT hb)) ?_
      refine RG.opg1 _ _ _ _ _ rfl rfl rfl rfl rfl (fun hb => o_and _ _ (gdT hb) (gdS hb) rfl) ?_
      refine RG.op _ _ rfl rfl (o_or _ _ rfl rfl rfl) ?_
      refine RG.nil (h11_ _ ?_)
      refine WC.cond _ rfl (fun c6 => ?_) (fun c6 => ?_)
      ·
        have p6 := c6
        try simp only [CN] at p6
        have hgd : kn5.getD k ([], 0, 0) = kn5[k]'hk := by rw [List.getD_eq_getElem?_getD, List.getElem?_eq_getElem hk]; rfl
        rw [hgn, hgd] at p6
        exfalso; rcases p6 with (h | ⟨h1, h2⟩) | ⟨h1, h2⟩; exact h ho.1; (rw [getI5_fail _ _ (by omega)] at h2; exact h2 rfl); exact h2 (ho.2 (by rw [← ho.1]; exact h1))
      ·
        have p6 := c6
        try simp only [CN] at p6
        refine WC.skip (h9_ _ ?_)
        refine WC.region ?_
        refine RG.op _ _ rfl rfl (o_move (.v _) rfl) ?_
        refine RG.op _ _ rfl rfl (o_add rfl rfl (by first | omega | exact ubyte _ | (simp only [LS, nS_len] <;> omega)) (by first | omega | exact ubyte _ | (simp only [LS, nS_len] <;> omega))) ?_
        refine RG.op _ _ rfl rfl (o_assign (.v _) rfl) ?_
        refine RG.nil (Exists.intro (k + 1) ⟨by first | omega | (simp only [LS, nS_len] <;> omega), by first | omega | (simp only [LS, nS_len] <;> omega), ?_⟩)
        exact .mk' ⟨⟨rfl, .v _⟩, trivial⟩ (by repeat (first | with_reducible exact same_refl _ _ | with_reducible refine same_updO (by with_unfolding_all exact rfl) ?_ | with_reducible refine same_updN ?_ | with_reducible refine same_updL (by with_unfolding_all exact rfl) ?_ | with_reducible refine same_forget (by with_unfolding_all exact rfl) ?_)) (rfl) (by repeat (first | exact trivial | refine And.intro (Nat.le_refl _) ?_ | refine And.intro trivial ?_ | refine And.intro (by show _ ≤ _; (first | omega | (simp only [LS, nS_len] <;> omega))) ?_)) (by repeat (first | exact trivial | refine And.intro (one_ok (.own _ _ _ _ _ (Nat.le_refl _))) ?_ | refine And.intro (okp (by repeat (first | exact pu_bytes _ | exact pu_nil | exact pu_vs rfl | exact pu_map (fun _ => .v _) _ | exact pu_vals _ | refine pu_app ?_ ?_ | refine pu_cons (by exact pu_of rfl) ?_))) ?_))
    ·
      have p3 := c3
      try simp only [CN] at p3
      refine WC.exit (h3_ _ ?_)
      refine WC.seq fun Fh12_ h12_ => ?_
      refine WC.region ?_
      refine RG.op _ _ rfl rfl (o_litP (cs := [(.v _), (.v _), (.v _)]) Try.underlying41 Ty.inf2 rfl rfl rfl rfl (by repeat (first | exact pu_bytes _ | exact pu_nil | exact pu_vs rfl | exact pu_map (fun _ => .v _) _ | exact pu_vals _ | refine pu_app ?_ ?_ | refine pu_cons (by exact pu_of rfl) ?_))) ?_
      refine RG.op _ _ rfl rfl (o_call Ty.cal24 (iputs_c [5, 5, 5] (by decide)) ⟨.inl rfl, trivial⟩ (by exact pua rfl)) ?_
      refine RG.op _ _ rfl rfl (o_str_rd rfl Try.underlying22 Try.underlying5 Try.underlying9) ?_
      refine RG.op _ _ rfl rfl (o_eqS' (m := ([1, 10, 1, 9, 1, 0] : List UInt8)) rfl rfl) ?_
      refine RG.op _ _ rfl rfl (o_move (.v _) rfl) ?_
      refine RG.opg1 _ _ _ _ _ rfl rfl rfl rfl rfl (fun hb => o_call Ty.cal24 (iputs_c [] (by decide)) ⟨.inr ⟨rfl, rfl⟩, trivial⟩ (by exact pua rfl)) ?_
      refine RG.opg1 _ _ _ _ _ rfl rfl rfl rfl rfl (fun hb => o_len_rd (gdT hb) Try.underlying22) ?_
      refine RG.opg1 _ _ _ _ _ rfl rfl rfl rfl rfl (fun hb => o_eqI (gdT hb) rfl) ?_
      refine RG.op _ _ rfl rfl (o_and _ _ rfl rfl rfl) ?_
      refine RG.op _ _ rfl rfl (o_move (.v _) rfl) ?_
      refine RG.opg1 _ _ _ _ _ rfl rfl rfl rfl rfl (fun hb => o_litP (cs := [(.v _)]) Try.underlying41 Ty.inf2 rfl rfl rfl rfl (by repeat (first | exact pu_bytes _ | exact pu_nil | exact pu_vs rfl | exact pu_map (fun _ => .v _) _ | exact pu_vals _ | refine pu_app ?_ ?_ | refine pu_cons (by exact pu_of rfl) ?_))) ?_
      refine RG.opg1 _ _ _ _ _ rfl rfl rfl rfl rfl (fun hb => (by exact o_call (ds := [rdI [-9223372036854775808]]) Ty.cal24 (iputs_c [-9223372036854775808] (by decide)) ⟨.inl (gdT hb), trivial⟩ (by exact pua rfl))) ?_
      refine RG.opg1 _ _ _ _ _ rfl rfl rfl rfl rfl (fun hb => o_str_rd (gdT hb) Try.underlying22 Try.underlying5 Try.underlying9) ?_
      refine RG.opg1 _ _ _ _ _ rfl rfl rfl rfl rfl (fun hb => o_eqS' (m := ([1, 255, 255, 255, 255, 255, 255, 255, 255, 255, 1] : List UInt8)) (gdT hb) rfl) ?_
      refine RG.op _ _ rfl rfl (o_and _ _ rfl rfl rfl) ?_
      refine RG.op _ _ rfl rfl (o_move (.v _) rfl) ?_
      refine RG.opg1 _ _ _ _ _ rfl rfl rfl rfl rfl (fun hb => o_call Ty.cal27 (puts5_c) trivial (by exact pua rfl)) ?_
      refine RG.op _ _ rfl rfl (o_and _ _ rfl rfl rfl) ?_
      refine RG.op _ _ rfl rfl (o_assign (.v _) rfl) ?_
      refine RG.nil (h12_ _ ?_)
      refine WC.ret ?_
      exact Ends.r1 rfl (.tmp _ (.v _) rfl) (.v _) (congrArg Bo (by rw [put555, putNil, putMin]; rfl))
end Go.Proofs.Ytbdibcpenihpdaa
