/-
  Layer ints: the runs of a row's changes: the iterator. No condition.
-/
import Derived.Test.YtbdibcpenihpdaaI1
import Derived.Test.YtbdibcpenihpdaaDlU
set_option linter.unusedSimpArgs false
set_option linter.unusedVariables false
namespace Go.Proofs.Ytbdibcpenihpdaa
open Go.RowKit Go.DL

set_option maxHeartbeats 4000000 in
theorem wrap_c (a b : Int) : Fun Try.prog 56 [I64 a, I64 b] (· = I64 (wrapI a b)) := by
  refine Fun.of Try.func56 rfl (Nat.le_of_ble_eq_true rfl) fun C => ?_
  refine WC.seq fun Fh1_ h1_ => ?_
  refine WC.region ?_
  refine RG.op _ _ rfl rfl (o_assign (.v _) rfl) ?_
  refine RG.nil (h1_ _ ?_)
  refine WC.seq fun Fh2_ h2_ => ?_
  refine WC.region ?_
  refine RG.op _ _ rfl rfl (o_move (.v _) rfl) ?_
  refine RG.op _ _ rfl rfl (o_i64toU rfl Try.underlying2 Try.underlying72) ?_
  refine RG.op _ _ rfl rfl (o_move (.v _) rfl) ?_
  refine RG.op _ _ rfl rfl (o_i64toU rfl Try.underlying2 Try.underlying72) ?_
  refine RG.op _ _ rfl rfl (o_subU rfl rfl (by first | omega | exact ubyte _ | (simp only [LS] <;> omega))) ?_
  refine RG.op _ _ rfl rfl (o_UtoI64 rfl (by first | omega | exact ubyte _ | (simp only [LS] <;> omega)) Try.underlying72 Try.underlying2) ?_
  refine RG.op _ _ rfl rfl (o_assign (.v _) rfl) ?_
  refine RG.nil (h2_ _ ?_)
  refine WC.ret ?_
  exact Ends.r1 rfl (.tmp _ (.v _) rfl) (.v _) (congrArg I64 (by unfold wrapI; exact congrArg sgn (by omega)))
/-- The runs of changes: each change, and how often it comes one behind the other. -/
def runsF : List Int → Int → Int → Nat → Int → List (Nat × Int)
  | [], _, _, n, c => if 0 < n then [(n, c)] else []
  | v :: l, la, st, n, c => if 0 < n ∧ ¬ wrapI (wrapI v la) st = c then (n, c) :: runsF l v (wrapI v la) 1 (wrapI (wrapI v la) st) else runsF l v (wrapI v la) (n + 1) (wrapI (wrapI v la) st)
def runsM (l : List Int) : List (Nat × Int) := runsF l 0 0 0 0
theorem runsF_yield {l : List Int} {i n : Nat} {la st c : Int} (h : i < l.length) (h1 : 0 < n) (h2 : ¬ wrapI (wrapI l[i] la) st = c) : runsF (l.drop i) la st n c = (n, c) :: runsF (l.drop (i + 1)) l[i] (wrapI l[i] la) 1 (wrapI (wrapI l[i] la) st) := by
  rw [List.drop_eq_getElem_cons h, runsF, if_pos ⟨h1, h2⟩]
theorem runsF_on {l : List Int} {i n : Nat} {la st c : Int} (h : i < l.length) (h1 : ¬ (0 < n ∧ ¬ wrapI (wrapI l[i] la) st = c)) : runsF (l.drop i) la st n c = runsF (l.drop (i + 1)) l[i] (wrapI l[i] la) (n + 1) (wrapI (wrapI l[i] la) st) := by
  rw [List.drop_eq_getElem_cons h, runsF, if_neg h1]
theorem drop_head {l : List (Nat × Int)} {k : Nat} {x : Nat × Int} {r : List (Nat × Int)} (h : l.drop k = x :: r) : k < l.length ∧ l.getD k p0 = x ∧ l.drop (k + 1) = r := by
  have hk : k < l.length := by
    rcases Nat.lt_or_ge k l.length with hk | hk
    · exact hk
    · rw [List.drop_eq_nil_of_le hk] at h; cases h
  rw [List.drop_eq_getElem_cons hk] at h
  have h1 := (List.cons.inj h).1
  have h2 := (List.cons.inj h).2
  exact ⟨hk, by simp [List.getD, hk, h1], h2⟩
theorem runsF_last {l : List Int} {i n : Nat} {la st c : Int} (h : l.drop i = []) (hn : 0 < n) : runsF (l.drop i) la st n c = [(n, c)] := by rw [h, runsF, if_pos hn]
theorem runsF_none {l : List Int} {i n : Nat} {la st c : Int} (h : l.drop i = []) (hn : ¬ 0 < n) : runsF (l.drop i) la st n c = [] := by rw [h, runsF, if_neg hn]
theorem putH_all {l : List (Nat × Int)} {k : Nat} (h : l.drop k = []) : putH l k = putH l l.length := by
  have hk : l.length ≤ k := by
    rcases Nat.lt_or_ge k l.length with hk | hk
    · rw [List.drop_eq_getElem_cons hk] at h; cases h
    · exact hk
  have : bytesP l k = bytesP l l.length := by unfold bytesP; rw [List.take_of_length_le hk, List.take_length]
  unfold putH; rw [this]
set_option maxHeartbeats 4000000 in
theorem runs1_c (l : List Int) (hl : l.length ≤ 1099511627776) (prs : List (Nat × Int)) (hprs : prs = runsM l) : Iter Try.prog 55 [.adr [rdI l]] 2 (putH prs) prs.length (fun k => [N64 (prs.getD k p0).1, I64 (prs.getD k p0).2]) := by
  refine Iter.of Try.func55 rfl (Nat.le_of_ble_eq_true rfl) fun C l_ r_ β0_ K0_ hC_ har_ hy_ => ?_
  refine WC.seq fun Fh1_ h1_ => ?_
  refine WC.region ?_
  refine RG.op _ _ rfl rfl (o_assign (N64 0) rfl) ?_
  refine RG.op _ _ rfl rfl (o_assign (.v _) rfl) ?_
  refine RG.nil (h1_ _ ?_)
  refine WC.seq fun Fh2_ h2_ => ?_
  refine WC.region ?_
  refine RG.op _ _ rfl rfl (o_assign (.v _) rfl) ?_
  refine RG.op _ _ rfl rfl (o_assign (.v _) rfl) ?_
  refine RG.nil (h2_ _ ?_)
  refine WC.seq fun Fh3_ h3_ => ?_
  refine WC.seq fun Fh4_ h4_ => ?_
  refine WC.region ?_
  refine RG.op _ _ rfl rfl (o_load_adr rfl Try.underlying41 rfl rfl) ?_
  refine RG.op _ _ rfl rfl (o_len_rd rfl Try.underlying41) ?_
  refine RG.op _ _ rfl rfl (o_move (.v _) rfl) ?_
  refine RG.nil (h4_ _ ?_)
  refine WC.block ?_
  refine WC.loopU [3, 4, 5, 6, 8, 9, 10, 13, 14, 15, 16, 17, 18, 19, 20, 21, 22, 23, 24, 25, 26, 27, 28, 29, 30, 31, 32, 33, 34, 35, 36, 37, 38, 39, 40] (fun (p : Nat × Nat × Nat × Int × Int × Int) => [(13, I64 ((p.1 : Nat) : Int)), (3, N64 p.2.2.1), (4, I64 p.2.2.2.1), (5, I64 p.2.2.2.2.1), (6, I64 p.2.2.2.2.2)]) (fun (p : Nat × Nat × Nat × Int × Int × Int) => [(0, some ⟨[ow 1 (bytesP prs p.2.1).length 1], 22, false, 0⟩), (1, tb 5 (bytesP prs p.2.1).length (bytesD (bytesP prs p.2.1)))]) (fun (p : Nat × Nat × Nat × Int × Int × Int) => p.1 ≤ l.length ∧ p.2.2.1 ≤ p.1 ∧ prs.drop p.2.1 = runsF (l.drop p.1) p.2.2.2.2.1 p.2.2.2.2.2 p.2.2.1 p.2.2.2.1) (fun (p : Nat × Nat × Nat × Int × Int × Int) => l.length - p.1) (0, 0, 0, 0, 0, 0) ⟨Nat.zero_le _, Nat.le_refl _, by rw [hprs]; rfl⟩ ?lpa5_ ?lpb6_
  case lpa5_ =>
    exact .mk' ⟨⟨rfl, .v _⟩, ⟨rfl, .v _⟩, ⟨rfl, .v _⟩, ⟨rfl, .v _⟩, ⟨rfl, .v _⟩, trivial⟩ (same_refl _ _) (rfl) (by repeat (first | exact trivial | refine And.intro (Nat.le_refl _) ?_ | refine And.intro trivial ?_ | refine And.intro (by show _ ≤ _; (first | omega | (simp only [LS] <;> omega))) ?_)) (by repeat (first | exact trivial | refine And.intro (one_ok (.own _ _ _ _ _ (Nat.le_refl _))) ?_ | refine And.intro (okp (by repeat (first | exact pu_bytes _ | exact pu_nil | exact pu_vs rfl | exact pu_map (fun _ => .v _) _ | exact pu_vals _ | refine pu_app ?_ ?_ | refine pu_cons (by exact pu_of rfl) ?_))) ?_))
  case lpb6_ =>
    rintro p hI
    have h00 : (bytesP prs 0).length = 0 := rfl
    have hk1 := hI.1
    have hk2 := hI.2.1
    have hk3 := hI.2.2
    refine WC.seq fun Fh7_ h7_ => ?_
    refine WC.region ?_
    refine RG.op _ _ rfl rfl (o_ltI rfl rfl) ?_
    refine RG.nil (h7_ _ ?_)
    refine WC.seq fun Fh8_ h8_ => ?_
    refine WC.cond _ rfl (fun c3 => ?_) (fun c3 => ?_)
    ·
      have p3 := c3
      try simp only [CN] at p3
      have hlt : p.1 < l.length := by omega
      refine WC.skip (h8_ _ ?_)
      refine WC.seq fun Fh9_ h9_ => ?_
      refine WC.block ?_
      refine WC.seq fun Fh10_ h10_ => ?_
      refine WC.region ?_
      refine RG.op _ _ rfl rfl (o_ixn_M p.1 rfl rfl Try.underlying41 (sz_of Ty.inf2) (by first | omega | exact ubyte _ | (simp only [LS] <;> omega)) (by first | omega | exact ubyte _ | (simp only [LS] <;> omega))) ?_
      refine RG.op _ _ rfl rfl (o_load_adr rfl Try.underlying2 rfl rfl) ?_
      refine RG.op _ _ rfl rfl (o_assign (.v _) rfl) ?_
      refine RG.nil (h10_ _ ?_)
      refine WC.seq fun Fh11_ h11_ => ?_
      refine WC.region ?_
      refine RG.op _ _ rfl rfl (o_move (.v _) rfl) ?_
      refine RG.op _ _ rfl rfl (o_move (.v _) rfl) ?_
      refine RG.op _ _ rfl rfl (o_call Ty.cal56 (wrap_c _ _) ⟨.inl rfl, .inl rfl, trivial⟩ (by exact pua rfl)) ?_
      refine RG.op _ _ rfl rfl (o_assign (.v _) rfl) ?_
      refine RG.nil (h11_ _ ?_)
      refine WC.seq fun Fh12_ h12_ => ?_
      refine WC.region ?_
      refine RG.op _ _ rfl rfl (o_move (.v _) rfl) ?_
      refine RG.op _ _ rfl rfl (o_move (.v _) rfl) ?_
      refine RG.op _ _ rfl rfl (o_call Ty.cal56 (wrap_c _ _) ⟨.inl rfl, .inl rfl, trivial⟩ (by exact pua rfl)) ?_
      refine RG.op _ _ rfl rfl (o_assign (.v _) rfl) ?_
      refine RG.nil (h12_ _ ?_)
      refine WC.seq fun Fh13_ h13_ => ?_
      refine WC.region ?_
      refine RG.op _ _ rfl rfl (o_move (.v _) rfl) ?_
      refine RG.op _ _ rfl rfl (o_move (.v _) rfl) ?_
      refine RG.op _ _ rfl rfl (o_assign (.v _) rfl) ?_
      refine RG.op _ _ rfl rfl (o_assign (.v _) rfl) ?_
      refine RG.nil (h13_ _ ?_)
      refine WC.seq fun Fh14_ h14_ => ?_
      refine WC.seq fun Fh15_ h15_ => ?_
      refine WC.region ?_
      refine RG.op _ _ rfl rfl (o_move (.v _) rfl) ?_
      refine RG.op _ _ rfl rfl (o_gtI rfl rfl) ?_
      refine RG.op _ _ rfl rfl (o_move (.v _) rfl) ?_
      refine RG.opg1 _ _ _ _ _ rfl rfl rfl rfl rfl (fun hb => o_move (.v _) rfl) ?_
      refine RG.opg1 _ _ _ _ _ rfl rfl rfl rfl rfl (fun hb => o_move (.v _) rfl) ?_
      refine RG.opg1 _ _ _ _ _ rfl rfl rfl rfl rfl (fun hb => o_neI (gdT hb) (gdT hb)) ?_
      refine RG.op _ _ rfl rfl (o_and _ _ rfl rfl rfl) ?_
      refine RG.nil (h15_ _ ?_)
      refine WC.cond _ rfl (fun c8 => ?_) (fun c8 => ?_)
      ·
        have p8 := c8
        try simp only [CN] at p8
        have hd := drop_head (hk3.trans (runsF_yield hlt (by omega) p8.2))
        have hyk := hy_ p.2.1 hd.1
        rw [hd.2.1] at hyk
        refine WC.seq fun Fh16_ h16_ => ?_
        refine WC.seq fun Fh17_ h17_ => ?_
        refine WC.region ?_
        refine RG.op _ _ rfl rfl (o_move (.v _) rfl) ?_
        refine RG.op _ _ rfl rfl (o_move (.v _) rfl) ?_
        refine RG.op _ _ rfl rfl (o_move (.v _) rfl) ?_
        refine RG.opM _ _ rfl rfl (x_yieldF (ds := [N64 p.2.2.1, I64 p.2.2.2.1]) (putH prs p.2.1) (putH prs (p.2.1 + 1)) [] rfl hC_ (by rw [har_]; rfl) ⟨.inl rfl, .inl rfl, trivial⟩ (by exact pua rfl) rfl rfl (putH_ok _ _) (putH_ok _ _) hyk) ?_
        refine RG.op _ _ rfl rfl (o_not rfl) ?_
        refine RG.nil (h17_ _ ?_)
        refine WC.cond _ rfl (fun c9 => ?_) (fun c9 => ?_)
        ·
          have p9 := c9
          try simp only [CN] at p9
          cases c9
        ·
          have p9 := c9
          try simp only [CN] at p9
          refine WC.skip (h16_ _ ?_)
          refine WC.region ?_
          refine RG.op _ _ rfl rfl (o_assign (N64 0) rfl) ?_
          refine RG.nil (h14_ _ ?_)
          refine WC.region ?_
          refine RG.op _ _ rfl rfl (o_move (N64 0) rfl) ?_
          refine RG.op _ _ rfl rfl (o_addU (a := 0) (b := 1) rfl rfl) ?_
          refine RG.op _ _ rfl rfl (o_move (.v _) rfl) ?_
          refine RG.op _ _ rfl rfl (o_assign (.v _) rfl) ?_
          refine RG.op _ _ rfl rfl (o_assign (.v _) rfl) ?_
          refine RG.nil (h9_ _ ?_)
          refine WC.region ?_
          refine RG.op _ _ rfl rfl (o_add rfl rfl (by first | omega | exact ubyte _ | (simp only [LS] <;> omega)) (by first | omega | exact ubyte _ | (simp only [LS] <;> omega))) ?_
          refine RG.op _ _ rfl rfl (o_move (.v _) rfl) ?_
          refine RG.nil (Exists.intro ((p.1 + 1, p.2.1 + 1, 1, wrapI (wrapI (l[p.1]'hlt) p.2.2.2.2.1) p.2.2.2.2.2, l[p.1]'hlt, wrapI (l[p.1]'hlt) p.2.2.2.2.1)) ⟨⟨by show p.1 + 1 ≤ _; omega, by show 1 ≤ p.1 + 1; omega, hd.2.2⟩, (by show _ < _; omega), ?_⟩)
          exact .mk' ⟨⟨rfl, .v _⟩, ⟨rfl, .v _⟩, ⟨rfl, .v _⟩, ⟨rfl, .v _⟩, ⟨rfl, .v _⟩, trivial⟩ (by repeat (first | with_reducible exact same_refl _ _ | with_reducible refine same_updO (by with_unfolding_all exact rfl) ?_ | with_reducible refine same_updN ?_ | with_reducible refine same_updL (by with_unfolding_all exact rfl) ?_ | with_reducible refine same_forget (by with_unfolding_all exact rfl) ?_)) (rfl) (by repeat (first | exact trivial | refine And.intro (Nat.le_refl _) ?_ | refine And.intro trivial ?_ | refine And.intro (by show _ ≤ _; (first | omega | (simp only [LS] <;> omega))) ?_)) (by repeat (first | exact trivial | refine And.intro (one_ok (.own _ _ _ _ _ (Nat.le_refl _))) ?_ | refine And.intro (okp (by repeat (first | exact pu_bytes _ | exact pu_nil | exact pu_vs rfl | exact pu_map (fun _ => .v _) _ | exact pu_vals _ | refine pu_app ?_ ?_ | refine pu_cons (by exact pu_of rfl) ?_))) ?_))
      ·
        have p8 := c8
        try simp only [CN] at p8
        refine WC.skip (h14_ _ ?_)
        refine WC.region ?_
        refine RG.op _ _ rfl rfl (o_move (.v _) rfl) ?_
        refine RG.op _ _ rfl rfl (o_addU (b := 1) rfl rfl) ?_
        refine RG.op _ _ rfl rfl (o_move (.v _) rfl) ?_
        refine RG.op _ _ rfl rfl (o_assign (.v _) rfl) ?_
        refine RG.op _ _ rfl rfl (o_assign (.v _) rfl) ?_
        refine RG.nil (h9_ _ ?_)
        refine WC.region ?_
        refine RG.op _ _ rfl rfl (o_add rfl rfl (by first | omega | exact ubyte _ | (simp only [LS] <;> omega)) (by first | omega | exact ubyte _ | (simp only [LS] <;> omega))) ?_
        refine RG.op _ _ rfl rfl (o_move (.v _) rfl) ?_
        refine RG.nil (Exists.intro ((p.1 + 1, p.2.1, p.2.2.1 + 1, wrapI (wrapI (l[p.1]'hlt) p.2.2.2.2.1) p.2.2.2.2.2, l[p.1]'hlt, wrapI (l[p.1]'hlt) p.2.2.2.2.1)) ⟨⟨by show p.1 + 1 ≤ _; omega, by show p.2.2.1 + 1 ≤ p.1 + 1; omega, by rw [hk3]; exact runsF_on hlt (by rintro ⟨h1, h2⟩; rcases p8 with h | h; omega; exact h2 h)⟩, (by show _ < _; omega), ?_⟩)
        exact .mk' ⟨⟨rfl, .v _⟩, ⟨congrArg N64 (show (p.2.2.1 + 1) % 18446744073709551616 = p.2.2.1 + 1 by omega), .v _⟩, ⟨rfl, .v _⟩, ⟨rfl, .v _⟩, ⟨rfl, .v _⟩, trivial⟩ (by repeat (first | with_reducible exact same_refl _ _ | with_reducible refine same_updO (by with_unfolding_all exact rfl) ?_ | with_reducible refine same_updN ?_ | with_reducible refine same_updL (by with_unfolding_all exact rfl) ?_ | with_reducible refine same_forget (by with_unfolding_all exact rfl) ?_)) (rfl) (by repeat (first | exact trivial | refine And.intro (Nat.le_refl _) ?_ | refine And.intro trivial ?_ | refine And.intro (by show _ ≤ _; (first | omega | (simp only [LS] <;> omega))) ?_)) (by repeat (first | exact trivial | refine And.intro (one_ok (.own _ _ _ _ _ (Nat.le_refl _))) ?_ | refine And.intro (okp (by repeat (first | exact pu_bytes _ | exact pu_nil | exact pu_vs rfl | exact pu_map (fun _ => .v _) _ | exact pu_vals _ | refine pu_app ?_ ?_ | refine pu_cons (by exact pu_of rfl) ?_))) ?_))
    ·
      have p3 := c3
      try simp only [CN] at p3
      have hen : l.drop p.1 = [] := List.drop_eq_nil_of_le (by omega)
      refine WC.exit (h3_ _ ?_)
      refine WC.seq fun Fh18_ h18_ => ?_
      refine WC.region ?_
      refine RG.op _ _ rfl rfl (o_move (.v _) rfl) ?_
      refine RG.op _ _ rfl rfl (o_gtI rfl rfl) ?_
      refine RG.nil (h18_ _ ?_)
      refine WC.cond _ rfl (fun c13 => ?_) (fun c13 => ?_)
      ·
        have p13 := c13
        try simp only [CN] at p13
        have hd := drop_head (hk3.trans (runsF_last hen (by omega)))
        have hyk := hy_ p.2.1 hd.1
        rw [hd.2.1] at hyk
        refine WC.region ?_
        refine RG.op _ _ rfl rfl (o_move (.v _) rfl) ?_
        refine RG.op _ _ rfl rfl (o_move (.v _) rfl) ?_
        refine RG.op _ _ rfl rfl (o_move (.v _) rfl) ?_
        refine RG.opM _ _ rfl rfl (x_yieldF (ds := [N64 p.2.2.1, I64 p.2.2.2.1]) (putH prs p.2.1) (putH prs (p.2.1 + 1)) [] rfl hC_ (by rw [har_]; rfl) ⟨.inl rfl, .inl rfl, trivial⟩ (by exact pua rfl) rfl rfl (putH_ok _ _) (putH_ok _ _) hyk) ?_
        refine RG.nil ?_
        refine endM.mkN 2 [_, _] rfl rfl (by repeat (first | exact trivial | refine And.intro (one_ok (.own _ _ _ _ _ (Nat.le_refl _))) ?_ | refine And.intro (okp (by repeat (first | exact pu_bytes _ | exact pu_nil | exact pu_vs rfl | exact pu_map (fun _ => .v _) _ | exact pu_vals _ | refine pu_app ?_ ?_ | refine pu_cons (by exact pu_of rfl) ?_))) ?_)) ?_
        exact EndsM.r0 rfl   (⟨⟨_, rfl⟩, putH_all hd.2.2⟩)
      ·
        have p13 := c13
        try simp only [CN] at p13
        have hno := hk3.trans (runsF_none hen (by omega))
        refine WC.skip ?_
        refine endM.mkN 2 [_, _] rfl rfl (by repeat (first | exact trivial | refine And.intro (one_ok (.own _ _ _ _ _ (Nat.le_refl _))) ?_ | refine And.intro (okp (by repeat (first | exact pu_bytes _ | exact pu_nil | exact pu_vs rfl | exact pu_map (fun _ => .v _) _ | exact pu_vals _ | refine pu_app ?_ ?_ | refine pu_cons (by exact pu_of rfl) ?_))) ?_)) ?_
        exact EndsM.r0 rfl   (⟨⟨_, rfl⟩, putH_all hno⟩)
end Go.Proofs.Ytbdibcpenihpdaa
