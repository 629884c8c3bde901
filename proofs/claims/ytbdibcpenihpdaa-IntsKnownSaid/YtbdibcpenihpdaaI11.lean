/-
  Layer ints: both Gets for every number; the model: runs and rows there and back. No condition.
-/
import Derived.Test.YtbdibcpenihpdaaI9
import Derived.Test.YtbdibcpenihpdaaI10
import Derived.Test.YtbdibcpenihpdaaDlU
set_option linter.unusedSimpArgs false
set_option linter.unusedVariables false
namespace Go.Proofs.Ytbdibcpenihpdaa
open Go.RowKit Go.DL

set_option maxHeartbeats 4000000 in
theorem iarg_c (b : List UInt8) (n : Int) (hn : n < 0 ∨ 65536 < n) : Fun Try.prog 28 [rdB b, I64 n] (· = VI ([], 1)) := by
  refine Fun.of Try.func28 rfl (Nat.le_of_ble_eq_true rfl) fun C => ?_
  refine WC.seq fun Fh1_ h1_ => ?_
  refine WC.region ?_
  refine RG.op _ _ rfl rfl (o_assign (.v _) rfl) ?_
  refine RG.op _ _ rfl rfl (o_assign (.v _) rfl) ?_
  refine RG.nil (h1_ _ ?_)
  refine WC.seq fun Fh2_ h2_ => ?_
  refine WC.seq fun Fh3_ h3_ => ?_
  refine WC.region ?_
  refine RG.op _ _ rfl rfl (o_move (.v _) rfl) ?_
  refine RG.op _ _ rfl rfl (o_ltI rfl rfl) ?_
  refine RG.op _ _ rfl rfl (o_move (.v _) rfl) ?_
  refine RG.opg1 _ _ _ _ _ rfl rfl rfl rfl rfl (fun hb => o_move (.v _) rfl) ?_
  refine RG.opg1 _ _ _ _ _ rfl rfl rfl rfl rfl (fun hb => o_gtI (gdT hb) rfl) ?_
  refine RG.op _ _ rfl rfl (o_or _ _ rfl rfl rfl) ?_
  refine RG.nil (h3_ _ ?_)
  refine WC.cond _ rfl (fun c1 => ?_) (fun c1 => ?_)
  ·
    have p1 := c1
    try simp only [CN] at p1
    refine WC.seq fun Fh4_ h4_ => ?_
    refine WC.region ?_
    refine RG.op _ _ rfl rfl (o_assign (.v _) rfl) ?_
    refine RG.op _ _ rfl rfl (o_assign (.v _) rfl) ?_
    refine RG.nil (h4_ _ ?_)
    refine WC.ret ?_
    exact Ends.r2 rfl (.tmp _ (.v _) rfl) (.tmp _ (.v _) rfl) .nilr (.v _) (rfl)
  ·
    have p1 := c1
    try simp only [CN] at p1
    exfalso; omega
set_option maxHeartbeats 4000000 in
theorem rarg_c (b : List UInt8) (n : Int) (hn : n < 0 ∨ 65536 < n) : Fun Try.prog 29 [rdB b, I64 n] (· = VI ([], 1)) := by
  refine Fun.of Try.func29 rfl (Nat.le_of_ble_eq_true rfl) fun C => ?_
  refine WC.seq fun Fh1_ h1_ => ?_
  refine WC.region ?_
  refine RG.op _ _ rfl rfl (o_assign (.v _) rfl) ?_
  refine RG.op _ _ rfl rfl (o_assign (.v _) rfl) ?_
  refine RG.nil (h1_ _ ?_)
  refine WC.seq fun Fh2_ h2_ => ?_
  refine WC.seq fun Fh3_ h3_ => ?_
  refine WC.region ?_
  refine RG.op _ _ rfl rfl (o_move (.v _) rfl) ?_
  refine RG.op _ _ rfl rfl (o_ltI rfl rfl) ?_
  refine RG.op _ _ rfl rfl (o_move (.v _) rfl) ?_
  refine RG.opg1 _ _ _ _ _ rfl rfl rfl rfl rfl (fun hb => o_move (.v _) rfl) ?_
  refine RG.opg1 _ _ _ _ _ rfl rfl rfl rfl rfl (fun hb => o_gtI (gdT hb) rfl) ?_
  refine RG.op _ _ rfl rfl (o_or _ _ rfl rfl rfl) ?_
  refine RG.nil (h3_ _ ?_)
  refine WC.cond _ rfl (fun c1 => ?_) (fun c1 => ?_)
  ·
    have p1 := c1
    try simp only [CN] at p1
    refine WC.seq fun Fh4_ h4_ => ?_
    refine WC.region ?_
    refine RG.op _ _ rfl rfl (o_assign (.v _) rfl) ?_
    refine RG.op _ _ rfl rfl (o_assign (.v _) rfl) ?_
    refine RG.nil (h4_ _ ?_)
    refine WC.ret ?_
    exact Ends.r2 rfl (.tmp _ (.v _) rfl) (.tmp _ (.v _) rfl) .nilr (.v _) (rfl)
  ·
    have p1 := c1
    try simp only [CN] at p1
    exfalso; omega
theorem geti_c (b : List UInt8) (n : Int) (hb : b.length ≤ 10995116277760) : Fun Try.prog 28 [rdB b, I64 n] (· = VI (getI5 b n)) := by
  unfold getI5
  split
  · rename_i h; exact iarg_c b n h
  · have h := iget_c b n.toNat hb (by omega)
    rwa [show ((n.toNat : Nat) : Int) = n by omega] at h
theorem getr_c (b : List UInt8) (n : Int) (hb : b.length ≤ 10995116277760) : Fun Try.prog 29 [rdB b, I64 n] (· = VI (getI5 b n)) := by
  unfold getI5
  split
  · rename_i h; exact rarg_c b n h
  · have h := igetR_c b n.toNat hb (by omega)
    rwa [show ((n.toNat : Nat) : Int) = n by omega] at h
theorem gI_len (b : List UInt8) (n : Nat) : ∀ (f a : Nat) (c : List Int), c.length ≤ n → (gI b n f a c).1.length ≤ n
  | 0, _, _, _ => Nat.zero_le _
  | f + 1, a, c, h => by
    rw [gI]
    split
    · split
      · exact Nat.zero_le _
      · exact h
    split
    · exact Nat.zero_le _
    split
    · exact Nat.zero_le _
    rename_i h2
    split
    · exact Nat.zero_le _
    split
    · exact Nat.zero_le _
    refine gI_len b n f _ _ ?_
    simp only [List.length_append, List.length_replicate]; omega
theorem getI5_len (b : List UInt8) (n : Int) : (getI5 b n).1.length ≤ 65536 := by
  unfold getI5
  split
  · exact Nat.zero_le _
  · exact Nat.le_trans (gI_len b n.toNat _ _ _ (Nat.zero_le _)) (by omega)
theorem getI5_nums (b : List UInt8) (n : Int) : (nS (getI5 b n).1).2.2.length ≤ 65536 := by rw [nS_len]; exact getI5_len b n
theorem gI_fail (b : List UInt8) (n : Nat) : ∀ (f a : Nat) (c : List Int), ¬ (gI b n f a c).2 = 0 → (gI b n f a c).1 = []
  | 0, _, _, _ => rfl
  | f + 1, a, c, h => by
    rw [gI] at h ⊢
    split
    · rename_i e; rw [if_pos e] at h
      split
      · rfl
      · rename_i e; rw [if_neg e] at h; exact absurd rfl h
    rename_i e1; rw [if_neg e1] at h
    split
    · rfl
    rename_i e2; rw [if_neg e2] at h
    split
    · rfl
    rename_i e3; rw [if_neg e3] at h
    split
    · rfl
    rename_i e4; rw [if_neg e4] at h
    split
    · rfl
    rename_i e5; rw [if_neg e5] at h
    exact gI_fail b n f _ _ h
theorem getI5_fail (b : List UInt8) (n : Int) (h : ¬ (getI5 b n).2 = 0) : (getI5 b n).1 = [] := by
  unfold getI5 at h ⊢
  split
  · rfl
  · rename_i e; rw [if_neg e] at h; exact gI_fail _ _ _ _ _ h
/-! ### Changes and numbers -/
def chI : List Int → Int → Int → List Int
  | [], _, _ => []
  | v :: l, la, st => wrapI (wrapI v la) st :: chI l v (wrapI v la)
theorem runsF_is : ∀ (l : List Int) (la st : Int) (n : Nat) (c : Int), runsF l la st n c = runsG (chI l la st) n c
  | [], _, _, n, c => rfl
  | v :: l, la, st, n, c => by
    rw [runsF, chI, runsG, runsF_is l, runsF_is l]
theorem chI_len : ∀ (l : List Int) (la st : Int), (chI l la st).length = l.length
  | [], _, _ => rfl
  | v :: l, la, st => by rw [chI, List.length_cons, chI_len l, List.length_cons]
abbrev in64 (x : Int) : Prop := -9223372036854775808 ≤ x ∧ x ≤ 9223372036854775807
theorem sgn_id {x : Int} (h : in64 x) : sgn (x % 18446744073709551616).toNat = x := by unfold sgn; split <;> omega
theorem sgn_eq {x y : Int} (h : in64 x) (e : y % 18446744073709551616 = x % 18446744073709551616) : sgn (y % 18446744073709551616).toNat = x := by rw [e]; exact sgn_id h
theorem add_mod (a b : Int) : addI a b % 18446744073709551616 = (a + b) % 18446744073709551616 := by unfold addI; rw [sgn_mod (by omega)]; omega
theorem add_in (a b : Int) : in64 (addI a b) := by unfold addI; exact sgn_rng (by omega)
theorem wrap_in (a b : Int) : in64 (wrapI a b) := wrap_rng a b
theorem add_wrap {a b : Int} (h : in64 a) : addI b (wrapI a b) = a := by
  have h1 := wrap_mod a b
  exact sgn_eq h (by omega)
theorem wrap_add {a b : Int} (h : in64 b) : wrapI (addI a b) a = b := by
  have h1 := add_mod a b
  exact sgn_eq h (by omega)
abbrev nF (q : Int × Int × List Int) (d : Int) : Int × Int × List Int := (addI q.1 d, addI q.2.1 (addI q.1 d), q.2.2 ++ [addI q.2.1 (addI q.1 d)])
theorem nS_is (c : List Int) : nS c = c.foldl nF (0, 0, []) := rfl
/-- The numbers of a row's changes are the row. -/
theorem fold_ch : ∀ (l : List Int) (la st : Int) (out : List Int), (∀ x ∈ l, in64 x) → ((chI l la st).foldl nF (st, la, out)).2.2 = out ++ l
  | [], _, _, out, _ => (List.append_nil out).symm
  | v :: l, la, st, out, h => by
    rw [chI, List.foldl_cons]
    have e1 : addI st (wrapI (wrapI v la) st) = wrapI v la := add_wrap (wrap_in v la)
    have e2 : addI la (wrapI v la) = v := add_wrap (h v (by simp))
    unfold nF
    simp only [e1, e2]
    rw [fold_ch l v (wrapI v la) (out ++ [v]) fun x hx => h x (by simp [hx])]
    simp
theorem nS_ch {l : List Int} (h : ∀ x ∈ l, in64 x) : (nS (chI l 0 0)).2.2 = l := by rw [nS_is]; exact fold_ch l 0 0 [] h
/-- The changes of the numbers of changes are these changes. -/
theorem ch_fold : ∀ (c : List Int) (la st : Int) (out : List Int), (∀ x ∈ c, in64 x) → ∃ l, (c.foldl nF (st, la, out)).2.2 = out ++ l ∧ chI l la st = c ∧ ∀ x ∈ l, in64 x
  | [], _, _, out, _ => ⟨[], (List.append_nil out).symm, rfl, fun _ h => by simp at h⟩
  | d :: c, la, st, out, h => by
    obtain ⟨l, h1, h2, h3⟩ := ch_fold c (addI la (addI st d)) (addI st d) (out ++ [addI la (addI st d)]) fun x hx => h x (by simp [hx])
    have e1 : wrapI (addI la (addI st d)) la = addI st d := wrap_add (add_in _ _)
    refine ⟨addI la (addI st d) :: l, ?_, ?_, ?_⟩
    · rw [List.foldl_cons, h1]; simp
    · rw [chI, e1, wrap_add (h d (by simp)), h2]
    · intro x hx
      rcases List.mem_cons.1 hx with rfl | hx
      · exact add_in _ _
      · exact h3 x hx
theorem ch_nS {c : List Int} (h : ∀ x ∈ c, in64 x) : chI (nS c).2.2 0 0 = c ∧ ∀ x ∈ (nS c).2.2, in64 x := by
  obtain ⟨l, h1, h2, h3⟩ := ch_fold c 0 0 [] h
  have e : (nS c).2.2 = l := by rw [nS_is, h1]; rfl
  rw [e]; exact ⟨h2, h3⟩
/-! ### Runs -/
def expR (prs : List (Nat × Int)) : List Int := prs.flatMap fun p => List.replicate p.1 p.2
theorem expR_cons (p : Nat × Int) (r : List (Nat × Int)) : expR (p :: r) = List.replicate p.1 p.2 ++ expR r := rfl
theorem exp_runsG : ∀ (r : List Int) (n : Nat) (c : Int), expR (runsG r n c) = List.replicate n c ++ r
  | [], n, c => by
    rw [runsG]
    split
    · simp [expR]
    · have : n = 0 := by omega
      subst this; rfl
  | d :: r, n, c => by
    rw [runsG]
    split
    · rw [expR_cons, exp_runsG r 1 d]; simp
    · rename_i h
      rw [exp_runsG r (n + 1) d, List.replicate_succ', List.append_assoc]
      rcases Nat.eq_zero_or_pos n with h0 | h0
      · subst h0; rfl
      · have : d = c := by
          rcases Decidable.em (d = c) with e | e
          · exact e
          · exact absurd ⟨h0, e⟩ h
        rw [this]; rfl
def okR : List (Nat × Int) → Prop
  | [] => True
  | p :: r => 1 ≤ p.1 ∧ (∀ q, r.head? = some q → p.2 ≠ q.2) ∧ okR r
theorem runsG_head : ∀ (r : List Int) (n : Nat) (c : Int), 0 < n → ∀ q, (runsG r n c).head? = some q → q.2 = c
  | [], n, c, h, q, e => by rw [runsG, if_pos h] at e; cases e; rfl
  | d :: r, n, c, h, q, e => by
    rw [runsG] at e
    split at e
    · cases e; rfl
    · rename_i h2
      have : d = c := by
        rcases Decidable.em (d = c) with e | e
        · exact e
        · exact absurd ⟨h, e⟩ h2
      exact (runsG_head r (n + 1) d (by omega) q e).trans this
theorem okR_runsG : ∀ (r : List Int) (n : Nat) (c : Int), okR (runsG r n c)
  | [], n, c => by
    rw [runsG]
    split
    · rename_i h; exact ⟨h, fun q h => (by cases h), trivial⟩
    · trivial
  | d :: r, n, c => by
    rw [runsG]
    split
    · rename_i h
      exact ⟨h.1, fun q hq => by rw [runsG_head r 1 d (by omega) q hq]; exact fun e => h.2 e.symm, okR_runsG r 1 d⟩
    · exact okR_runsG r (n + 1) d
theorem runsG_run : ∀ (m : Nat) (r : List Int) (n : Nat) (d : Int), runsG (List.replicate m d ++ r) n d = runsG r (n + m) d
  | 0, r, n, d => rfl
  | m + 1, r, n, d => by
    rw [List.replicate_succ, List.cons_append, runsG, if_neg (fun h => h.2 rfl), runsG_run m r (n + 1) d]
    congr 1; omega
theorem runsG_cons (d : Int) (r : List Int) (n : Nat) (c : Int) : runsG (d :: r) n c = if 0 < n ∧ ¬ d = c then (n, c) :: runsG r 1 d else runsG r (n + 1) d := rfl
theorem runsG_end (n : Nat) (c : Int) : runsG [] n c = if 0 < n then [(n, c)] else [] := rfl
/-- A run behind others. -/
theorem runsG_snoc {m : Nat} (hm : 1 ≤ m) (d : Int) : ∀ (r : List Int) (n : Nat) (c : Int), (∀ x, (List.replicate n c ++ r).getLast? = some x → x ≠ d) → runsG (r ++ List.replicate m d) n c = runsG r n c ++ [(m, d)]
  | [], n, c, h => by
    obtain ⟨k, rfl⟩ : ∃ k, m = k + 1 := ⟨m - 1, by omega⟩
    rw [List.nil_append, List.replicate_succ, runsG_cons, runsG_end]
    have hr : ∀ n, runsG (List.replicate k d) n d = runsG [] (n + k) d := fun n => by have := runsG_run k [] n d; rwa [List.append_nil] at this
    rcases Nat.eq_zero_or_pos n with h0 | h0
    · subst h0
      rw [if_neg (fun h => Nat.lt_irrefl _ h.1), hr, runsG_end, if_pos (by omega), if_neg (Nat.lt_irrefl _)]
      show [_] = [_]
      rw [show 0 + 1 + k = k + 1 by omega]
    · have hc : ¬ c = d := fun e => by
        refine h c ?_ e
        obtain ⟨j, rfl⟩ : ∃ j, n = j + 1 := ⟨n - 1, by omega⟩
        rw [List.append_nil, List.replicate_succ']; simp
      rw [if_pos ⟨h0, fun e => hc e.symm⟩, hr, runsG_end, if_pos (by omega), if_pos h0]
      show [_, _] = [_, _]
      rw [show 1 + k = k + 1 by omega]
  | x :: r, n, c, h => by
    have hx : ∀ k, (∀ y, (List.replicate (k + 1) x ++ r).getLast? = some y → y ≠ d) := fun k y hy => by
      refine h y ?_
      rw [← hy, List.replicate_succ', List.append_assoc]
      simp [List.getLast?_append, List.getLast?_cons]
    rw [List.cons_append, runsG_cons, runsG_cons]
    split
    · rw [runsG_snoc hm d r 1 x (hx 0)]; rfl
    · rw [runsG_snoc hm d r (n + 1) x (hx n)]
end Go.Proofs.Ytbdibcpenihpdaa
