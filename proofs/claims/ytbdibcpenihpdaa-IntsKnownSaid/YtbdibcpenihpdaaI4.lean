/-
  Layer ints: the document's rows held against each other, all changes; the law's examples. No condition.
-/
import Derived.Test.YtbdibcpenihpdaaI3
import Derived.Test.YtbdibcpenihpdaaEvT
import Derived.Test.YtbdibcpenihpdaaDlU
set_option linter.unusedSimpArgs false
set_option linter.unusedVariables false
namespace Go.Proofs.Ytbdibcpenihpdaa
open Go.RowKit Go.DL

set_option maxHeartbeats 4000000 in
theorem same5_c (a b : List Int) (ha : a.length ≤ 9223372036854775807) (hb : b.length ≤ 9223372036854775807) : Fun Try.prog 26 [rdI a, rdI b] (· = Bo (decide (a = b))) := by
  refine Fun.of Try.func26 rfl (Nat.le_of_ble_eq_true rfl) fun C => ?_
  refine WC.seq fun Fh1_ h1_ => ?_
  refine WC.region ?_
  refine RG.op _ _ rfl rfl (o_assign (.v _) rfl) ?_
  refine RG.nil (h1_ _ ?_)
  refine WC.seq fun Fh2_ h2_ => ?_
  refine WC.seq fun Fh3_ h3_ => ?_
  refine WC.region ?_
  refine RG.op _ _ rfl rfl (o_move (.rd _ _) rfl) ?_
  refine RG.op _ _ rfl rfl (o_len_rd rfl Try.underlying41) ?_
  refine RG.op _ _ rfl rfl (o_move (.rd _ _) rfl) ?_
  refine RG.op _ _ rfl rfl (o_len_rd rfl Try.underlying41) ?_
  refine RG.op _ _ rfl rfl (o_neI rfl rfl) ?_
  refine RG.nil (h3_ _ ?_)
  refine WC.cond _ rfl (fun c1 => ?_) (fun c1 => ?_)
  ·
    have p1 := c1
    try simp only [CN] at p1
    refine WC.seq fun Fh4_ h4_ => ?_
    refine WC.region ?_
    refine RG.op _ _ rfl rfl (o_assign (.v _) rfl) ?_
    refine RG.nil (h4_ _ ?_)
    refine WC.ret ?_
    exact Ends.r1 rfl (.tmp _ (.v _) rfl) (.v _) (congrArg Bo (decide_eq_false (by rintro rfl; omega)).symm)
  ·
    have p1 := c1
    try simp only [CN] at p1
    refine WC.skip (h2_ _ ?_)
    refine WC.seq fun Fh5_ h5_ => ?_
    refine WC.seq fun Fh6_ h6_ => ?_
    refine WC.region ?_
    refine RG.op _ _ rfl rfl (o_assign (.v _) rfl) ?_
    refine RG.nil (h6_ _ ?_)
    refine WC.block ?_
    refine WC.loopU [4, 5, 11, 12, 13, 14, 15, 16, 17, 18, 19, 20, 21, 22, 23, 24, 25] (fun (k : Nat) => [(5, I64 ((k : Nat) : Int))]) (fun (k : Nat) => []) (fun (k : Nat) => k ≤ a.length ∧ a.take k = b.take k) (fun (k : Nat) => a.length - k) 0 ⟨by omega, rfl⟩ ?lpa7_ ?lpb8_
    case lpa7_ =>
      exact .mk' ⟨⟨rfl, .v _⟩, trivial⟩ (same_refl _ _) (rfl) (by repeat (first | exact trivial | refine And.intro (Nat.le_refl _) ?_ | refine And.intro trivial ?_ | refine And.intro (by show _ ≤ _; (first | omega | (simp only [LS] <;> omega))) ?_)) (by repeat (first | exact trivial | refine And.intro (one_ok (.own _ _ _ _ _ (Nat.le_refl _))) ?_ | refine And.intro (okp (by repeat (first | exact pu_bytes _ | exact pu_nil | exact pu_vs rfl | exact pu_map (fun _ => .v _) _ | exact pu_vals _ | refine pu_app ?_ ?_ | refine pu_cons (by exact pu_of rfl) ?_))) ?_))
    case lpb8_ =>
      rintro k hI
      have hk := hI.1
      have he := hI.2
      refine WC.seq fun Fh9_ h9_ => ?_
      refine WC.seq fun Fh10_ h10_ => ?_
      refine WC.region ?_
      refine RG.op _ _ rfl rfl (o_move (.v _) rfl) ?_
      refine RG.op _ _ rfl rfl (o_move (.rd _ _) rfl) ?_
      refine RG.op _ _ rfl rfl (o_len_rd rfl Try.underlying41) ?_
      refine RG.op _ _ rfl rfl (o_ltI rfl rfl) ?_
      refine RG.nil (h10_ _ ?_)
      refine WC.cond _ rfl (fun c4 => ?_) (fun c4 => ?_)
      ·
        have p4 := c4
        try simp only [CN] at p4
        refine WC.skip (h9_ _ ?_)
        refine WC.seq fun Fh11_ h11_ => ?_
        refine WC.block ?_
        refine WC.seq fun Fh12_ h12_ => ?_
        refine WC.drawn1 (by kernel_rfl) ?_
        refine PG.op _ rfl rfl rfl (by rintro _ rfl; exact o_move (.rd _ _) rfl) ?_
        refine PG.op _ rfl rfl rfl (by rintro _ rfl; exact o_move (.v _) rfl) ?_
        refine PG.op _ rfl rfl rfl (by rintro _ rfl; exact o_ixn_M k rfl rfl Try.underlying41 (sz_of Ty.inf2) (by first | omega | exact ubyte _ | (simp only [LS] <;> omega)) (by first | omega | exact ubyte _ | (simp only [LS] <;> omega))) ?_
        refine PG.op _ rfl rfl rfl (by rintro _ rfl; exact o_load_adr rfl Try.underlying2 rfl rfl) ?_
        refine PG.op _ rfl rfl rfl (by rintro _ rfl; exact o_move (.rd _ _) rfl) ?_
        refine PG.op _ rfl rfl rfl (by rintro _ rfl; exact o_move (.v _) rfl) ?_
        refine PG.op _ rfl rfl rfl (by rintro _ rfl; exact o_ixn_M k rfl rfl Try.underlying41 (sz_of Ty.inf2) (by first | omega | exact ubyte _ | (simp only [LS] <;> omega)) (by first | omega | exact ubyte _ | (simp only [LS] <;> omega))) ?_
        refine PG.op _ rfl rfl rfl (by rintro _ rfl; exact o_load_adr rfl Try.underlying2 rfl rfl) ?_
        refine PG.op _ rfl rfl rfl (by rintro _ rfl; exact o_neI rfl rfl) ?_
        refine PG.nil ⟨by kernel_rfl, rfl, (h12_ _ ?_)⟩
        refine WC.cond _ rfl (fun c6 => ?_) (fun c6 => ?_)
        ·
          have p6 := c6
          try simp only [CN] at p6
          refine WC.seq fun Fh13_ h13_ => ?_
          refine WC.region ?_
          refine RG.op _ _ rfl rfl (o_assign (.v _) rfl) ?_
          refine RG.nil (h13_ _ ?_)
          refine WC.ret ?_
          exact Ends.r1 rfl (.tmp _ (.v _) rfl) (.v _) (congrArg Bo (decide_eq_false (by rintro rfl; exact p6 rfl)).symm)
        ·
          have p6 := c6
          try simp only [CN] at p6
          refine WC.skip (h11_ _ ?_)
          refine WC.region ?_
          refine RG.op _ _ rfl rfl (o_move (.v _) rfl) ?_
          refine RG.op _ _ rfl rfl (o_add rfl rfl (by first | omega | exact ubyte _ | (simp only [LS] <;> omega)) (by first | omega | exact ubyte _ | (simp only [LS] <;> omega))) ?_
          refine RG.op _ _ rfl rfl (o_assign (.v _) rfl) ?_
          refine RG.nil (Exists.intro (k + 1) ⟨⟨by omega, by rw [List.take_succ_eq_append_getElem (by omega), List.take_succ_eq_append_getElem (by omega), hI.2, show a[k]'(by omega) = b[k]'(by omega) from p6]⟩, by first | omega | (simp only [LS] <;> omega), ?_⟩)
          exact .mk' ⟨⟨rfl, .v _⟩, trivial⟩ (by repeat (first | with_reducible exact same_refl _ _ | with_reducible refine same_updO (by with_unfolding_all exact rfl) ?_ | with_reducible refine same_updN ?_ | with_reducible refine same_updL (by with_unfolding_all exact rfl) ?_ | with_reducible refine same_forget (by with_unfolding_all exact rfl) ?_)) (rfl) (by repeat (first | exact trivial | refine And.intro (Nat.le_refl _) ?_ | refine And.intro trivial ?_ | refine And.intro (by show _ ≤ _; (first | omega | (simp only [LS] <;> omega))) ?_)) (by repeat (first | exact trivial | refine And.intro (one_ok (.own _ _ _ _ _ (Nat.le_refl _))) ?_ | refine And.intro (okp (by repeat (first | exact pu_bytes _ | exact pu_nil | exact pu_vs rfl | exact pu_map (fun _ => .v _) _ | exact pu_vals _ | refine pu_app ?_ ?_ | refine pu_cons (by exact pu_of rfl) ?_))) ?_))
      ·
        have p4 := c4
        try simp only [CN] at p4
        refine WC.exit (h5_ _ ?_)
        refine WC.seq fun Fh14_ h14_ => ?_
        refine WC.region ?_
        refine RG.op _ _ rfl rfl (o_assign (.v _) rfl) ?_
        refine RG.nil (h14_ _ ?_)
        refine WC.ret ?_
        exact Ends.r1 rfl (.tmp _ (.v _) rfl) (.v _) (congrArg Bo (decide_eq_true (by have e : k = a.length := (by omega); rw [List.take_of_length_le (by omega), List.take_of_length_le (by omega)] at he; exact he)).symm)
/-- A number, going round. -/
def uI (x : Int) : Nat := (x % 18446744073709551616).toNat
def sbN (a b : Nat) : Nat := (a + (18446744073709551616 - b)) % 18446744073709551616
def laN (l : List Int) (i : Nat) : Nat := if 0 < i then uI (l.getD (i - 1) 0) else 0
def stN (l : List Int) (i : Nat) : Nat := if 1 < i then sbN (laN l i) (uI (l.getD (i - 2) 0)) else laN l i
def chg (l : List Int) (i : Nat) : Nat := sbN (sbN (uI (l.getD i 0)) (laN l i)) (stN l i)
def chgs (l : List Int) (k : Nat) : List Nat := (List.range k).map (chg l)
theorem chgs_len (l : List Int) (k : Nat) : (chgs l k).length = k := by simp [chgs]
theorem uI_le (x : Int) : uI x ≤ 18446744073709551615 := by unfold uI; omega
theorem sbN_le (a b : Nat) : sbN a b ≤ 18446744073709551615 := by unfold sbN; omega
theorem laN_le (l : List Int) (i : Nat) : laN l i ≤ 18446744073709551615 := by unfold laN; split; exact uI_le _; omega
theorem stN_le (l : List Int) (i : Nat) : stN l i ≤ 18446744073709551615 := by unfold stN; split; exact sbN_le _ _; exact laN_le _ _
theorem gI_at {l : List Int} {i : Nat} (h : i < l.length) : l[i] = l.getD i 0 := by simp [List.getD, h]
abbrev rdU (l : List Nat) : D := .rd l.length (l.map N64)
theorem putP : putI5 [10, 20, 30, 40] = [1, 20, 3, 0] := by
  have e : runsM [10, 20, 30, 40] = [(1, 10), (3, 0)] := by decide +kernel
  have z1 : zigN 10 = 20 := by decide
  have z2 : zigN 0 = 0 := by decide
  unfold putI5
  rw [e]
  simp only [List.flatMap_cons, List.flatMap_nil, encP, z1, z2]
  rw [encB_small (u := 1) (by omega), encB_small (u := 20) (by omega), encB_small (u := 3) (by omega), encB_small (u := 0) (by omega)]
  rfl
theorem chg_step {l : List Int} {k v : Nat} (h : v = chg l k) : (chgs l k).map N64 ++ [N64 v] = (chgs l (k + 1)).map N64 := by
  subst h
  unfold chgs
  rw [List.range_succ, List.map_append, List.map_append]; rfl
set_option maxHeartbeats 4000000 in
theorem changes_c (l : List Int) (hl : l.length ≤ 1099511627776) : Fun Try.prog 41 [rdI l] (· = rdU (chgs l l.length)) := by
  refine Fun.of Try.func41 rfl (Nat.le_of_ble_eq_true rfl) fun C => ?_
  refine WC.seq fun Fh1_ h1_ => ?_
  refine WC.region ?_
  refine RG.op _ _ rfl rfl (o_assign (.v _) rfl) ?_
  refine RG.nil (h1_ _ ?_)
  refine WC.seq fun Fh2_ h2_ => ?_
  refine WC.region ?_
  refine RG.op _ _ rfl rfl (o_nil 72 1) ?_
  refine RG.nil (h2_ _ ?_)
  refine WC.seq fun Fh3_ h3_ => ?_
  refine WC.seq fun Fh4_ h4_ => ?_
  refine WC.region ?_
  refine RG.op _ _ rfl rfl (o_assign (.v _) rfl) ?_
  refine RG.nil (h4_ _ ?_)
  refine WC.block ?_
  refine WC.loopU [3, 4, 5, 6, 7, 8, 9, 10, 11, 12, 13, 14, 15, 16, 17, 18, 19, 20, 21, 22, 23, 24, 25, 26, 27, 28, 29, 30, 31, 32, 33, 34, 35, 36, 37, 38, 39, 40, 41, 42, 43] (fun (k : Nat) => [(4, I64 ((k : Nat) : Int)), (3, ow 0 k 1)]) (fun (k : Nat) => [(0, tb 72 k ((chgs l k).map N64))]) (fun (k : Nat) => k ≤ l.length) (fun (k : Nat) => l.length - k) 0 (by first | omega | exact ubyte _ | (simp only [LS] <;> omega)) ?lpa5_ ?lpb6_
  case lpa5_ =>
    exact .mk' ⟨⟨rfl, .v _⟩, ⟨rfl, (by first | exact .own _ _ _ _ _ (Nat.le_refl _) | exact .ptr _ _ _ (Nat.le_refl _) | exact .omp _ _ (Nat.le_refl _))⟩, trivial⟩ (same_refl _ _) (rfl) (by repeat (first | exact trivial | refine And.intro (Nat.le_refl _) ?_ | refine And.intro trivial ?_ | refine And.intro (by show _ ≤ _; (first | omega | (simp only [LS] <;> omega))) ?_)) (by repeat (first | exact trivial | refine And.intro (one_ok (.own _ _ _ _ _ (Nat.le_refl _))) ?_ | refine And.intro (okp (by repeat (first | exact pu_bytes _ | exact pu_nil | exact pu_vs rfl | exact pu_map (fun _ => .v _) _ | exact pu_vals _ | refine pu_app ?_ ?_ | refine pu_cons (by exact pu_of rfl) ?_))) ?_))
  case lpb6_ =>
    rintro k hI
    have hcl := chgs_len l k
    refine WC.seq fun Fh7_ h7_ => ?_
    refine WC.seq fun Fh8_ h8_ => ?_
    refine WC.region ?_
    refine RG.op _ _ rfl rfl (o_move (.v _) rfl) ?_
    refine RG.op _ _ rfl rfl (o_move (.rd _ _) rfl) ?_
    refine RG.op _ _ rfl rfl (o_len_rd rfl Try.underlying41) ?_
    refine RG.op _ _ rfl rfl (o_ltI rfl rfl) ?_
    refine RG.nil (h8_ _ ?_)
    refine WC.cond _ rfl (fun c3 => ?_) (fun c3 => ?_)
    ·
      have p3 := c3
      try simp only [CN] at p3
      have hkl : k < l.length := by omega
      refine WC.skip (h7_ _ ?_)
      refine WC.seq fun Fh9_ h9_ => ?_
      refine WC.block ?_
      refine WC.seq fun Fh10_ h10_ => ?_
      refine WC.region ?_
      refine RG.op _ _ rfl rfl (o_assign (N64 0) rfl) ?_
      refine RG.nil (h10_ _ ?_)
      refine WC.seq fun Fh11_ h11_ => ?_
      refine WC.region ?_
      refine RG.op _ _ rfl rfl (o_assign (N64 0) rfl) ?_
      refine RG.nil (h11_ _ ?_)
      refine WC.seq fun Fh12_ h12_ => ?_
      refine WC.seq fun Fh13_ h13_ => ?_
      refine WC.region ?_
      refine RG.op _ _ rfl rfl (o_move (.v _) rfl) ?_
      refine RG.op _ _ rfl rfl (o_gtI rfl rfl) ?_
      refine RG.nil (h13_ _ ?_)
      refine WC.cond _ rfl (fun c7 => ?_) (fun c7 => ?_)
      ·
        have p7 := c7
        try simp only [CN] at p7
        refine WC.seq fun Fh14_ h14_ => ?_
        refine WC.region ?_
        refine RG.op _ _ rfl rfl (o_move (.rd _ _) rfl) ?_
        refine RG.op _ _ rfl rfl (o_move (.v _) rfl) ?_
        refine RG.op _ _ rfl rfl (o_sub rfl rfl (by first | omega | exact ubyte _ | (simp only [LS] <;> omega)) (by first | omega | exact ubyte _ | (simp only [LS] <;> omega))) ?_
        refine RG.op _ _ rfl rfl (o_ixn_M (k - 1) rfl rfl Try.underlying41 (sz_of Ty.inf2) (by first | omega | exact ubyte _ | (simp only [LS] <;> omega)) (by first | omega | exact ubyte _ | (simp only [LS] <;> omega))) ?_
        refine RG.op _ _ rfl rfl (o_load_adr rfl Try.underlying2 rfl rfl) ?_
        refine RG.op _ _ rfl rfl (o_i64toU rfl Try.underlying2 Try.underlying72) ?_
        refine RG.op _ _ rfl rfl (o_assign (.v _) rfl) ?_
        refine RG.nil (h14_ _ ?_)
        refine WC.region ?_
        refine RG.op _ _ rfl rfl (o_move (.v _) rfl) ?_
        refine RG.op _ _ rfl rfl (o_assign (.v _) rfl) ?_
        refine RG.nil (h12_ _ ?_)
        refine WC.seq fun Fh15_ h15_ => ?_
        refine WC.seq fun Fh16_ h16_ => ?_
        refine WC.region ?_
        refine RG.op _ _ rfl rfl (o_move (.v _) rfl) ?_
        refine RG.op _ _ rfl rfl (o_gtI rfl rfl) ?_
        refine RG.nil (h16_ _ ?_)
        refine WC.cond _ rfl (fun c10 => ?_) (fun c10 => ?_)
        ·
          have p10 := c10
          try simp only [CN] at p10
          refine WC.region ?_
          refine RG.op _ _ rfl rfl (o_move (.v _) rfl) ?_
          refine RG.op _ _ rfl rfl (o_move (.rd _ _) rfl) ?_
          refine RG.op _ _ rfl rfl (o_move (.v _) rfl) ?_
          refine RG.op _ _ rfl rfl (o_sub rfl rfl (by first | omega | exact ubyte _ | (simp only [LS] <;> omega)) (by first | omega | exact ubyte _ | (simp only [LS] <;> omega))) ?_
          refine RG.op _ _ rfl rfl (o_ixn_M (k - 2) rfl rfl Try.underlying41 (sz_of Ty.inf2) (by first | omega | exact ubyte _ | (simp only [LS] <;> omega)) (by first | omega | exact ubyte _ | (simp only [LS] <;> omega))) ?_
          refine RG.op _ _ rfl rfl (o_load_adr rfl Try.underlying2 rfl rfl) ?_
          refine RG.op _ _ rfl rfl (o_i64toU rfl Try.underlying2 Try.underlying72) ?_
          refine RG.op _ _ rfl rfl (o_subU rfl rfl (by first | omega | exact ubyte _ | (simp only [LS] <;> omega))) ?_
          refine RG.op _ _ rfl rfl (o_assign (.v _) rfl) ?_
          refine RG.nil (h15_ _ ?_)
          refine WC.region ?_
          refine RG.op _ _ rfl rfl (o_move (.own _ _ _ _ _) rfl) ?_
          refine RG.op _ _ rfl rfl (o_move (.rd _ _) rfl) ?_
          refine RG.op _ _ rfl rfl (o_move (.v _) rfl) ?_
          refine RG.op _ _ rfl rfl (o_ixn_M k rfl rfl Try.underlying41 (sz_of Ty.inf2) (by first | omega | exact ubyte _ | (simp only [LS] <;> omega)) (by first | omega | exact ubyte _ | (simp only [LS] <;> omega))) ?_
          refine RG.op _ _ rfl rfl (o_load_adr rfl Try.underlying2 rfl rfl) ?_
          refine RG.op _ _ rfl rfl (o_i64toU rfl Try.underlying2 Try.underlying72) ?_
          refine RG.op _ _ rfl rfl (o_move (.v _) rfl) ?_
          refine RG.op _ _ rfl rfl (o_subU rfl rfl (by first | omega | exact ubyte _ | (simp only [LS] <;> omega))) ?_
          refine RG.op _ _ rfl rfl (o_move (.v _) rfl) ?_
          refine RG.op _ _ rfl rfl (o_subU rfl rfl (by first | omega | exact ubyte _ | (simp only [LS] <;> omega))) ?_
          refine RG.op _ _ rfl rfl (o_litP (cs := [(.v _)]) Try.underlying75 Ty.inf72 rfl rfl rfl rfl (by repeat (first | exact pu_bytes _ | exact pu_nil | exact pu_vs rfl | exact pu_map (fun _ => .v _) _ | exact pu_vals _ | refine pu_app ?_ ?_ | refine pu_cons (by exact pu_of rfl) ?_))) ?_
          refine RG.op _ _ rfl rfl (o_appT (Elem.of Try.underlying75 Ty.inf72 rfl (by decide)) rfl rfl rfl (by first | omega | exact ubyte _ | (simp only [LS] <;> omega)) (by first | omega | exact ubyte _ | (simp only [LS] <;> omega)) (by repeat (first | exact bytesD_one _ | exact one_nil | exact one_map (fun _ => rfl) _ | exact one_vals _ | refine one_app ?_ ?_ | refine one_cons rfl ?_)) (by first | omega | exact ubyte _ | (simp only [LS] <;> omega)) (by first | omega | exact ubyte _ | (simp only [LS] <;> omega))) ?_
          refine RG.op _ _ rfl rfl (o_assign (.own _ _ _ _ _) rfl) ?_
          refine RG.nil (h9_ _ ?_)
          refine WC.region ?_
          refine RG.op _ _ rfl rfl (o_move (.v _) rfl) ?_
          refine RG.op _ _ rfl rfl (o_add rfl rfl (by first | omega | exact ubyte _ | (simp only [LS] <;> omega)) (by first | omega | exact ubyte _ | (simp only [LS] <;> omega))) ?_
          refine RG.op _ _ rfl rfl (o_assign (.v _) rfl) ?_
          refine RG.nil (Exists.intro (k + 1) ⟨by first | omega | (simp only [LS] <;> omega), by first | omega | (simp only [LS] <;> omega), ?_⟩)
          exact .mk' ⟨⟨rfl, .v _⟩, ⟨rfl, (by first | exact .own _ _ _ _ _ (Nat.le_refl _) | exact .ptr _ _ _ (Nat.le_refl _) | exact .omp _ _ (Nat.le_refl _))⟩, trivial⟩ (by repeat (first | with_reducible exact same_refl _ _ | with_reducible refine same_updO (by with_unfolding_all exact rfl) ?_ | with_reducible refine same_updN ?_ | with_reducible refine same_updL (by with_unfolding_all exact rfl) ?_ | with_reducible refine same_forget (by with_unfolding_all exact rfl) ?_)) (congrArg (fun c => [c]) (tb_eq rfl (chg_step (by unfold chg stN laN; rw [if_pos (by omega), if_pos (by omega), ← gI_at (by omega), ← gI_at (by omega), ← gI_at (by omega)]; unfold sbN uI; first | (exfalso; omega) | rfl)))) (by repeat (first | exact trivial | refine And.intro (Nat.le_refl _) ?_ | refine And.intro trivial ?_ | refine And.intro (by show _ ≤ _; (first | omega | (simp only [LS] <;> omega))) ?_)) (by repeat (first | exact trivial | refine And.intro (one_ok (.own _ _ _ _ _ (Nat.le_refl _))) ?_ | refine And.intro (okp (by repeat (first | exact pu_bytes _ | exact pu_nil | exact pu_vs rfl | exact pu_map (fun _ => .v _) _ | exact pu_vals _ | refine pu_app ?_ ?_ | refine pu_cons (by exact pu_of rfl) ?_))) ?_))
        ·
          have p10 := c10
          try simp only [CN] at p10
          refine WC.skip (h15_ _ ?_)
          refine WC.region ?_
          refine RG.op _ _ rfl rfl (o_move (.own _ _ _ _ _) rfl) ?_
          refine RG.op _ _ rfl rfl (o_move (.rd _ _) rfl) ?_
          refine RG.op _ _ rfl rfl (o_move (.v _) rfl) ?_
          refine RG.op _ _ rfl rfl (o_ixn_M k rfl rfl Try.underlying41 (sz_of Ty.inf2) (by first | omega | exact ubyte _ | (simp only [LS] <;> omega)) (by first | omega | exact ubyte _ | (simp only [LS] <;> omega))) ?_
          refine RG.op _ _ rfl rfl (o_load_adr rfl Try.underlying2 rfl rfl) ?_
          refine RG.op _ _ rfl rfl (o_i64toU rfl Try.underlying2 Try.underlying72) ?_
          refine RG.op _ _ rfl rfl (o_move (.v _) rfl) ?_
          refine RG.op _ _ rfl rfl (o_subU rfl rfl (by first | omega | exact ubyte _ | (simp only [LS] <;> omega))) ?_
          refine RG.op _ _ rfl rfl (o_move (.v _) rfl) ?_
          refine RG.op _ _ rfl rfl (o_subU rfl rfl (by first | omega | exact ubyte _ | (simp only [LS] <;> omega))) ?_
          refine RG.op _ _ rfl rfl (o_litP (cs := [(.v _)]) Try.underlying75 Ty.inf72 rfl rfl rfl rfl (by repeat (first | exact pu_bytes _ | exact pu_nil | exact pu_vs rfl | exact pu_map (fun _ => .v _) _ | exact pu_vals _ | refine pu_app ?_ ?_ | refine pu_cons (by exact pu_of rfl) ?_))) ?_
          refine RG.op _ _ rfl rfl (o_appT (Elem.of Try.underlying75 Ty.inf72 rfl (by decide)) rfl rfl rfl (by first | omega | exact ubyte _ | (simp only [LS] <;> omega)) (by first | omega | exact ubyte _ | (simp only [LS] <;> omega)) (by repeat (first | exact bytesD_one _ | exact one_nil | exact one_map (fun _ => rfl) _ | exact one_vals _ | refine one_app ?_ ?_ | refine one_cons rfl ?_)) (by first | omega | exact ubyte _ | (simp only [LS] <;> omega)) (by first | omega | exact ubyte _ | (simp only [LS] <;> omega))) ?_
          refine RG.op _ _ rfl rfl (o_assign (.own _ _ _ _ _) rfl) ?_
          refine RG.nil (h9_ _ ?_)
          refine WC.region ?_
          refine RG.op _ _ rfl rfl (o_move (.v _) rfl) ?_
          refine RG.op _ _ rfl rfl (o_add rfl rfl (by first | omega | exact ubyte _ | (simp only [LS] <;> omega)) (by first | omega | exact ubyte _ | (simp only [LS] <;> omega))) ?_
          refine RG.op _ _ rfl rfl (o_assign (.v _) rfl) ?_
          refine RG.nil (Exists.intro (k + 1) ⟨by first | omega | (simp only [LS] <;> omega), by first | omega | (simp only [LS] <;> omega), ?_⟩)
          exact .mk' ⟨⟨rfl, .v _⟩, ⟨rfl, (by first | exact .own _ _ _ _ _ (Nat.le_refl _) | exact .ptr _ _ _ (Nat.le_refl _) | exact .omp _ _ (Nat.le_refl _))⟩, trivial⟩ (by repeat (first | with_reducible exact same_refl _ _ | with_reducible refine same_updO (by with_unfolding_all exact rfl) ?_ | with_reducible refine same_updN ?_ | with_reducible refine same_updL (by with_unfolding_all exact rfl) ?_ | with_reducible refine same_forget (by with_unfolding_all exact rfl) ?_)) (congrArg (fun c => [c]) (tb_eq rfl (chg_step (by unfold chg stN laN; rw [if_pos (by omega), if_neg (by omega), ← gI_at (by omega), ← gI_at (by omega)]; unfold sbN uI; first | (exfalso; omega) | rfl)))) (by repeat (first | exact trivial | refine And.intro (Nat.le_refl _) ?_ | refine And.intro trivial ?_ | refine And.intro (by show _ ≤ _; (first | omega | (simp only [LS] <;> omega))) ?_)) (by repeat (first | exact trivial | refine And.intro (one_ok (.own _ _ _ _ _ (Nat.le_refl _))) ?_ | refine And.intro (okp (by repeat (first | exact pu_bytes _ | exact pu_nil | exact pu_vs rfl | exact pu_map (fun _ => .v _) _ | exact pu_vals _ | refine pu_app ?_ ?_ | refine pu_cons (by exact pu_of rfl) ?_))) ?_))
      ·
        have p7 := c7
        try simp only [CN] at p7
        refine WC.skip (h12_ _ ?_)
        refine WC.seq fun Fh17_ h17_ => ?_
        refine WC.seq fun Fh18_ h18_ => ?_
        refine WC.region ?_
        refine RG.op _ _ rfl rfl (o_move (.v _) rfl) ?_
        refine RG.op _ _ rfl rfl (o_gtI rfl rfl) ?_
        refine RG.nil (h18_ _ ?_)
        refine WC.cond _ rfl (fun c10 => ?_) (fun c10 => ?_)
        ·
          have p10 := c10
          try simp only [CN] at p10
          refine WC.region ?_
          refine RG.op _ _ rfl rfl (o_move (N64 0) rfl) ?_
          refine RG.op _ _ rfl rfl (o_move (.rd _ _) rfl) ?_
          refine RG.op _ _ rfl rfl (o_move (.v _) rfl) ?_
          refine RG.op _ _ rfl rfl (o_sub rfl rfl (by first | omega | exact ubyte _ | (simp only [LS] <;> omega)) (by first | omega | exact ubyte _ | (simp only [LS] <;> omega))) ?_
          refine RG.op _ _ rfl rfl (o_ixn_M (k - 2) rfl rfl Try.underlying41 (sz_of Ty.inf2) (by first | omega | exact ubyte _ | (simp only [LS] <;> omega)) (by first | omega | exact ubyte _ | (simp only [LS] <;> omega))) ?_
          refine RG.op _ _ rfl rfl (o_load_adr rfl Try.underlying2 rfl rfl) ?_
          refine RG.op _ _ rfl rfl (o_i64toU rfl Try.underlying2 Try.underlying72) ?_
          refine RG.op _ _ rfl rfl (o_subU (a := 0) rfl rfl (by first | omega | exact ubyte _ | (simp only [LS] <;> omega))) ?_
          refine RG.op _ _ rfl rfl (o_assign (.v _) rfl) ?_
          refine RG.nil (h17_ _ ?_)
          refine WC.region ?_
          refine RG.op _ _ rfl rfl (o_move (.own _ _ _ _ _) rfl) ?_
          refine RG.op _ _ rfl rfl (o_move (.rd _ _) rfl) ?_
          refine RG.op _ _ rfl rfl (o_move (.v _) rfl) ?_
          refine RG.op _ _ rfl rfl (o_ixn_M k rfl rfl Try.underlying41 (sz_of Ty.inf2) (by first | omega | exact ubyte _ | (simp only [LS] <;> omega)) (by first | omega | exact ubyte _ | (simp only [LS] <;> omega))) ?_
          refine RG.op _ _ rfl rfl (o_load_adr rfl Try.underlying2 rfl rfl) ?_
          refine RG.op _ _ rfl rfl (o_i64toU rfl Try.underlying2 Try.underlying72) ?_
          refine RG.op _ _ rfl rfl (o_move (N64 0) rfl) ?_
          refine RG.op _ _ rfl rfl (o_subU (b := 0) rfl rfl (by first | omega | exact ubyte _ | (simp only [LS] <;> omega))) ?_
          refine RG.op _ _ rfl rfl (o_move (.v _) rfl) ?_
          refine RG.op _ _ rfl rfl (o_subU rfl rfl (by first | omega | exact ubyte _ | (simp only [LS] <;> omega))) ?_
          refine RG.op _ _ rfl rfl (o_litP (cs := [(.v _)]) Try.underlying75 Ty.inf72 rfl rfl rfl rfl (by repeat (first | exact pu_bytes _ | exact pu_nil | exact pu_vs rfl | exact pu_map (fun _ => .v _) _ | exact pu_vals _ | refine pu_app ?_ ?_ | refine pu_cons (by exact pu_of rfl) ?_))) ?_
          refine RG.op _ _ rfl rfl (o_appT (Elem.of Try.underlying75 Ty.inf72 rfl (by decide)) rfl rfl rfl (by first | omega | exact ubyte _ | (simp only [LS] <;> omega)) (by first | omega | exact ubyte _ | (simp only [LS] <;> omega)) (by repeat (first | exact bytesD_one _ | exact one_nil | exact one_map (fun _ => rfl) _ | exact one_vals _ | refine one_app ?_ ?_ | refine one_cons rfl ?_)) (by first | omega | exact ubyte _ | (simp only [LS] <;> omega)) (by first | omega | exact ubyte _ | (simp only [LS] <;> omega))) ?_
          refine RG.op _ _ rfl rfl (o_assign (.own _ _ _ _ _) rfl) ?_
          refine RG.nil (h9_ _ ?_)
          refine WC.region ?_
          refine RG.op _ _ rfl rfl (o_move (.v _) rfl) ?_
          refine RG.op _ _ rfl rfl (o_add rfl rfl (by first | omega | exact ubyte _ | (simp only [LS] <;> omega)) (by first | omega | exact ubyte _ | (simp only [LS] <;> omega))) ?_
          refine RG.op _ _ rfl rfl (o_assign (.v _) rfl) ?_
          refine RG.nil (Exists.intro (k + 1) ⟨by first | omega | (simp only [LS] <;> omega), by first | omega | (simp only [LS] <;> omega), ?_⟩)
          exact .mk' ⟨⟨rfl, .v _⟩, ⟨rfl, (by first | exact .own _ _ _ _ _ (Nat.le_refl _) | exact .ptr _ _ _ (Nat.le_refl _) | exact .omp _ _ (Nat.le_refl _))⟩, trivial⟩ (by repeat (first | with_reducible exact same_refl _ _ | with_reducible refine same_updO (by with_unfolding_all exact rfl) ?_ | with_reducible refine same_updN ?_ | with_reducible refine same_updL (by with_unfolding_all exact rfl) ?_ | with_reducible refine same_forget (by with_unfolding_all exact rfl) ?_)) (congrArg (fun c => [c]) (tb_eq rfl (chg_step (by unfold chg stN laN; rw [if_pos (by omega), if_pos (by omega), ← gI_at (by omega), ← gI_at (by omega), ← gI_at (by omega)]; unfold sbN uI; first | (exfalso; omega) | rfl)))) (by repeat (first | exact trivial | refine And.intro (Nat.le_refl _) ?_ | refine And.intro trivial ?_ | refine And.intro (by show _ ≤ _; (first | omega | (simp only [LS] <;> omega))) ?_)) (by repeat (first | exact trivial | refine And.intro (one_ok (.own _ _ _ _ _ (Nat.le_refl _))) ?_ | refine And.intro (okp (by repeat (first | exact pu_bytes _ | exact pu_nil | exact pu_vs rfl | exact pu_map (fun _ => .v _) _ | exact pu_vals _ | refine pu_app ?_ ?_ | refine pu_cons (by exact pu_of rfl) ?_))) ?_))
        ·
          have p10 := c10
          try simp only [CN] at p10
          refine WC.skip (h17_ _ ?_)
          refine WC.region ?_
          refine RG.op _ _ rfl rfl (o_move (.own _ _ _ _ _) rfl) ?_
          refine RG.op _ _ rfl rfl (o_move (.rd _ _) rfl) ?_
          refine RG.op _ _ rfl rfl (o_move (.v _) rfl) ?_
          refine RG.op _ _ rfl rfl (o_ixn_M k rfl rfl Try.underlying41 (sz_of Ty.inf2) (by first | omega | exact ubyte _ | (simp only [LS] <;> omega)) (by first | omega | exact ubyte _ | (simp only [LS] <;> omega))) ?_
          refine RG.op _ _ rfl rfl (o_load_adr rfl Try.underlying2 rfl rfl) ?_
          refine RG.op _ _ rfl rfl (o_i64toU rfl Try.underlying2 Try.underlying72) ?_
          refine RG.op _ _ rfl rfl (o_move (N64 0) rfl) ?_
          refine RG.op _ _ rfl rfl (o_subU (b := 0) rfl rfl (by first | omega | exact ubyte _ | (simp only [LS] <;> omega))) ?_
          refine RG.op _ _ rfl rfl (o_move (N64 0) rfl) ?_
          refine RG.op _ _ rfl rfl (o_subU (b := 0) rfl rfl (by first | omega | exact ubyte _ | (simp only [LS] <;> omega))) ?_
          refine RG.op _ _ rfl rfl (o_litP (cs := [(.v _)]) Try.underlying75 Ty.inf72 rfl rfl rfl rfl (by repeat (first | exact pu_bytes _ | exact pu_nil | exact pu_vs rfl | exact pu_map (fun _ => .v _) _ | exact pu_vals _ | refine pu_app ?_ ?_ | refine pu_cons (by exact pu_of rfl) ?_))) ?_
          refine RG.op _ _ rfl rfl (o_appT (Elem.of Try.underlying75 Ty.inf72 rfl (by decide)) rfl rfl rfl (by first | omega | exact ubyte _ | (simp only [LS] <;> omega)) (by first | omega | exact ubyte _ | (simp only [LS] <;> omega)) (by repeat (first | exact bytesD_one _ | exact one_nil | exact one_map (fun _ => rfl) _ | exact one_vals _ | refine one_app ?_ ?_ | refine one_cons rfl ?_)) (by first | omega | exact ubyte _ | (simp only [LS] <;> omega)) (by first | omega | exact ubyte _ | (simp only [LS] <;> omega))) ?_
          refine RG.op _ _ rfl rfl (o_assign (.own _ _ _ _ _) rfl) ?_
          refine RG.nil (h9_ _ ?_)
          refine WC.region ?_
          refine RG.op _ _ rfl rfl (o_move (.v _) rfl) ?_
          refine RG.op _ _ rfl rfl (o_add rfl rfl (by first | omega | exact ubyte _ | (simp only [LS] <;> omega)) (by first | omega | exact ubyte _ | (simp only [LS] <;> omega))) ?_
          refine RG.op _ _ rfl rfl (o_assign (.v _) rfl) ?_
          refine RG.nil (Exists.intro (k + 1) ⟨by first | omega | (simp only [LS] <;> omega), by first | omega | (simp only [LS] <;> omega), ?_⟩)
          exact .mk' ⟨⟨rfl, .v _⟩, ⟨rfl, (by first | exact .own _ _ _ _ _ (Nat.le_refl _) | exact .ptr _ _ _ (Nat.le_refl _) | exact .omp _ _ (Nat.le_refl _))⟩, trivial⟩ (by repeat (first | with_reducible exact same_refl _ _ | with_reducible refine same_updO (by with_unfolding_all exact rfl) ?_ | with_reducible refine same_updN ?_ | with_reducible refine same_updL (by with_unfolding_all exact rfl) ?_ | with_reducible refine same_forget (by with_unfolding_all exact rfl) ?_)) (congrArg (fun c => [c]) (tb_eq rfl (chg_step (by unfold chg stN laN; rw [if_neg (by omega), if_neg (by omega), ← gI_at (by omega)]; unfold sbN uI; first | (exfalso; omega) | rfl)))) (by repeat (first | exact trivial | refine And.intro (Nat.le_refl _) ?_ | refine And.intro trivial ?_ | refine And.intro (by show _ ≤ _; (first | omega | (simp only [LS] <;> omega))) ?_)) (by repeat (first | exact trivial | refine And.intro (one_ok (.own _ _ _ _ _ (Nat.le_refl _))) ?_ | refine And.intro (okp (by repeat (first | exact pu_bytes _ | exact pu_nil | exact pu_vs rfl | exact pu_map (fun _ => .v _) _ | exact pu_vals _ | refine pu_app ?_ ?_ | refine pu_cons (by exact pu_of rfl) ?_))) ?_))
    ·
      have p3 := c3
      try simp only [CN] at p3
      refine WC.exit (h3_ _ ?_)
      refine WC.seq fun Fh19_ h19_ => ?_
      refine WC.region ?_
      refine RG.op _ _ rfl rfl (o_move (.own _ _ _ _ _) rfl) ?_
      refine RG.op _ _ rfl rfl (o_assign (.own _ _ _ _ _) rfl) ?_
      refine RG.nil (h19_ _ ?_)
      refine WC.ret ?_
      exact Ends.r1 rfl (.tmp _ (.own _ _ _ _ _) rfl) (.tb rfl (by repeat (first | exact pu_bytes _ | exact pu_nil | exact pu_vs rfl | exact pu_map (fun _ => .v _) _ | exact pu_vals _ | refine pu_app ?_ ?_ | refine pu_cons (by exact pu_of rfl) ?_))) (by have e : k = l.length := (by omega); subst e; exact rd_eq (chgs_len _ _).symm rfl)
end Go.Proofs.Ytbdibcpenihpdaa
