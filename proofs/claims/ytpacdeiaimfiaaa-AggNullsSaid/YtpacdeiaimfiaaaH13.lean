/-
  Layer agg: AggNulls. No condition.
-/
import Derived.Test.YtpacdeiaimfiaaaO1
import Derived.Test.YtpacdeiaimfiaaaDlU
set_option linter.unusedSimpArgs false
set_option linter.unusedVariables false
namespace Go.Proofs.Ytpacdeiaimfiaaa
open Go.RowKit Go.DL
set_option maxRecDepth 8000

/-- What is not counted leaves a state as it was; counting all counts it. -/
def s2 (op : UInt8) (s : St) : St := if op = 21 then moreM 1 0 s else s
theorem nul_r7 {op : UInt8} {v : Val} {s : St} (h : op = 27 ∨ op = 28) : feedM op v z0 s = s2 op s := by
  rcases h with rfl | rfl <;> rfl
theorem nul_r0 {op : UInt8} {v : Val} {s : St} (hc : aggB op = true) (h : ¬ (op = 27 ∨ op = 28)) : feedM op z0 v s = s2 op s := by
  rcases aggB_cases hc with rfl | rfl | rfl | rfl | rfl | rfl | rfl | rfl
  all_goals first | rfl | exact absurd (by decide) h
/-- What is kept is not behind any that was fed. -/
def Kept (d : Int) (s : St) (seen : List Pr) : Prop := s.by' = z0 ∧ ∀ p ∈ seen, p.1.k ≠ 0 → s.has = true ∧ ¬ cmpV p.1 s.best = d
theorem kept_step {op : UInt8} {d : Int} (ho : (op = 24 ∧ d = -1) ∨ (op = 25 ∧ d = 1)) {s : St} {seen : List Pr} (h : Kept d s seen) (p : Pr) : Kept d (feedM op p.1 p.2 s) (seen ++ [p]) := by
  have hd : d = -1 ∨ d = 1 := by rcases ho with ⟨_, h⟩ | ⟨_, h⟩; exact .inl h; exact .inr h
  have hd0 : ¬ (0 : Int) = d := by rcases hd with rfl | rfl <;> decide
  rw [show feedM op p.1 p.2 s = if p.1.k = 0 then s else pickM d p.1 z0 s by rcases ho with ⟨rfl, rfl⟩ | ⟨rfl, rfl⟩ <;> rfl]
  obtain ⟨h1, h2⟩ := h
  by_cases hk : p.1.k = 0
  · rw [if_pos hk]
    refine ⟨h1, fun q hq hqk => ?_⟩
    rcases List.mem_append.1 hq with hq | hq
    · exact h2 q hq hqk
    · simp at hq; subst hq; exact absurd hk hqk
  · rw [if_neg hk]
    have e : (if cmpV z0 s.by' = 0 then cmpV p.1 s.best else cmpV z0 s.by') = cmpV p.1 s.best := by rw [h1, if_pos (by decide)]
    by_cases hc : s.has = false ∨ cmpV p.1 s.best = d
    · rw [pick_yes (by rw [e]; exact hc)]
      refine ⟨rfl, fun q hq hqk => ⟨rfl, ?_⟩⟩
      show ¬ cmpV q.1 p.1 = d
      rcases List.mem_append.1 hq with hq | hq
      · obtain ⟨k1, k2⟩ := h2 q hq hqk
        rcases hc with hc | hc
        · rw [hc] at k1; cases k1
        · exact fun h => k2 (ordV.trd hd h hc)
      · simp at hq; subst hq
        rw [ordV.self]; exact hd0
    · have hn : s.has = true := by cases h : s.has with | true => rfl | false => exact absurd (.inl h) hc
      rw [pick_no (by rw [e]; exact hc)]
      refine ⟨h1, fun q hq hqk => ?_⟩
      rcases List.mem_append.1 hq with hq | hq
      · exact h2 q hq hqk
      · simp at hq; subst hq
        exact ⟨hn, fun h => hc (.inr h)⟩
theorem kept_fold {op : UInt8} {d : Int} (ho : (op = 24 ∧ d = -1) ∨ (op = 25 ∧ d = 1)) : ∀ (l : List Pr) (s : St) (seen : List Pr), Kept d s seen → Kept d (l.foldl (fun s p => feedM op p.1 p.2 s) s) (seen ++ l)
  | [], s, seen, h => by simpa using h
  | p :: l, s, seen, h => by
    have := kept_fold ho l _ _ (kept_step ho h p)
    rwa [List.append_assoc] at this
theorem nul_r9 {op : UInt8} {l : List Pr} {p : Pr} (h : op = 24 ∨ op = 25) (hp : p ∈ l) : feedM op p.1 p.2 (foldF op l) = s2 op (foldF op l) := by
  have go : ∀ d : Int, (op = 24 ∧ d = -1) ∨ (op = 25 ∧ d = 1) → feedM op p.1 p.2 (foldF op l) = s2 op (foldF op l) := fun d ho => by
    have hk : Kept d (foldF op l) l := kept_fold ho l (st0 op) [] ⟨rfl, fun _ h => by cases h⟩
    rw [show s2 op (foldF op l) = foldF op l by rcases ho with ⟨rfl, _⟩ | ⟨rfl, _⟩ <;> rfl]
    rw [show feedM op p.1 p.2 (foldF op l) = if p.1.k = 0 then foldF op l else pickM d p.1 z0 (foldF op l) by rcases ho with ⟨rfl, rfl⟩ | ⟨rfl, rfl⟩ <;> rfl]
    by_cases hz : p.1.k = 0
    · rw [if_pos hz]
    · rw [if_neg hz]
      obtain ⟨k1, k2⟩ := hk.2 p hp hz
      refine pick_no ?_
      rw [hk.1, if_pos (by decide), k1]
      simpa using k2
  rcases h with h | h
  · exact go (-1) (.inl ⟨h, rfl⟩)
  · exact go 1 (.inr ⟨h, rfl⟩)
theorem s2_room {op : UInt8} {s : St} (hr : Room s) (hn : s.n + 1 ≤ 1099511627776) : Room (s2 op s) := by
  unfold s2; split
  · exact room1 hr hn (by omega)
  · exact hr
theorem okP {l : List Pr} (hl : ∀ p ∈ l, okV p.1 ∧ okV p.2) : (∀ p ∈ l, inIv p.1) ∧ ∀ p ∈ l, p.1.t.length ≤ 9223372036854775807 ∧ p.2.t.length ≤ 9223372036854775807 :=
  ⟨fun p hp => ⟨(hl p hp).1.1, (hl p hp).1.2.1⟩, fun p hp => ⟨(hl p hp).1.2.2, (hl p hp).2.2.2⟩⟩
theorem great_not {l : List Pr} (h : greatM l = false) : l.length ≤ 300 := by
  unfold greatM at h
  rw [Bool.or_eq_false_iff] at h
  have := of_decide_eq_false h.1
  omega
theorem ans_21 {s : St} : ansM 21 s = (iV s.n, 0) ∧ ansM 21 (s2 21 s) = (iV (s.n + 1 : Nat), 0) := ⟨rfl, rfl⟩
theorem ans_not {op : UInt8} {s : St} (h : op ≠ 21) : ansM op (s2 op s) = ansM op s := by unfold s2; rw [if_neg h]
theorem idx9 {l : List Pr} {k : Int} (h : 0 < l.length) (hk : 0 ≤ k) : (k % (l.length : Int)).toNat < l.length := by
  have h1 := Int.emod_nonneg k (show (l.length : Int) ≠ 0 by omega)
  have h2 := Int.emod_lt_of_pos k (show (0 : Int) < l.length by omega)
  omega
theorem idx9e {l : List Pr} {k : Int} (h : 0 < l.length) (hk : 0 ≤ k) : k % (l.length : Int) = ((k % (l.length : Int)).toNat : Int) := by
  have h1 := Int.emod_nonneg k (show (l.length : Int) ≠ 0 by omega)
  omega
theorem add21 {op : UInt8} {s : St} (h : op = 21) (hn : s.n + 1 ≤ 1099511627776) : -9223372036854775808 ≤ (ansM op s).1.i + 1 ∧ (ansM op s).1.i + 1 ≤ 9223372036854775807 := by
  subst h
  show -9223372036854775808 ≤ (s.n : Int) + 1 ∧ (s.n : Int) + 1 ≤ 9223372036854775807
  omega
theorem fin21 {op : UInt8} {s : St} (h : op = 21) : (decide ((ansM op s).2 = 0) && decide ((ansM op (s2 op s)).2 = 0) && decide ((ansM op (s2 op s)).1.i = (ansM op s).1.i + 1) && true) = true := by
  subst h
  show (decide ((0 : Int) = 0) && decide ((0 : Int) = 0) && decide (((s.n + 1 : Nat) : Int) = (s.n : Int) + 1) && true) = true
  simp
set_option maxRecDepth 20000 in
set_option maxHeartbeats 4000000 in
theorem nulls_c (op : UInt8) (l : List Pr) (hl : (∀ p ∈ l, okV p.1 ∧ okV p.2) ∧ l.length ≤ 9223372036854775807) (k : Int) (hk : -9223372036854775808 ≤ k ∧ k ≤ 9223372036854775807) (v : Val) (hv : okV v) : Fun Try.prog 6 [B8 op, rdQ l, I64 k, VD v] (· = Bo true) := by
  obtain ⟨hi, ht⟩ := okP hl.1
  have hv3 := hv.2.2
  refine Fun.of Try.func6 rfl (Nat.le_of_ble_eq_true rfl) fun C => ?_
  refine WC.seq fun Fh1_ h1_ => ?_
  refine WC.region ?_
  refine RG.op _ _ rfl rfl (o_box (d := .agg [_, _, _]) rfl rfl) ?_
  refine RG.op _ _ rfl rfl (o_assign (.v _) rfl) ?_
  refine RG.nil (h1_ _ ?_)
  refine WC.seq fun Fh2_ h2_ => ?_
  refine WC.seq fun Fh3_ h3_ => ?_
  refine WC.region ?_
  refine RG.op _ _ rfl rfl (o_move (.rd _ _) rfl) ?_
  refine RG.op _ _ rfl rfl (o_call Ty.cal13 (great_c _ hl.2 ht) ⟨.inl rfl, trivial⟩ (by exact pua rfl)) ?_
  refine RG.op _ _ rfl rfl (o_move (.v _) rfl) ?_
  refine RG.opg1 _ _ _ _ _ rfl rfl rfl rfl rfl (fun hb => o_move (.v _) rfl) ?_
  refine RG.opg1 _ _ _ _ _ rfl rfl rfl rfl rfl (fun hb => o_call Ty.cal14 (is_c _) ⟨.inl (gdT hb), trivial⟩ (by exact pua rfl)) ?_
  refine RG.opg1 _ _ _ _ _ rfl rfl rfl rfl rfl (fun hb => o_not (gdT hb)) ?_
  refine RG.op _ _ rfl rfl (o_or _ _ rfl rfl rfl) ?_
  refine RG.op _ _ rfl rfl (o_move (.v _) rfl) ?_
  refine RG.opg1 _ _ _ _ _ rfl rfl rfl rfl rfl (fun hb => o_fld_ptr rfl Try.underlying23 rfl (sz_of Ty.inf9) (by decide)) ?_
  refine RG.opg1 _ _ _ _ _ rfl rfl rfl rfl rfl (fun hb => o_load_ptr (gdT hb) Try.underlying9 rfl rfl rfl rfl) ?_
  refine RG.opg1 _ _ _ _ _ rfl rfl rfl rfl rfl (fun hb => o_lenS (gdT hb) Try.underlying9) ?_
  refine RG.opg1 _ _ _ _ _ rfl rfl rfl rfl rfl (fun hb => o_gtI (gdT hb) rfl) ?_
  refine RG.op _ _ rfl rfl (o_or _ _ rfl rfl rfl) ?_
  refine RG.nil (h3_ _ ?_)
  refine WC.cond _ rfl (fun c1 => ?_) (fun c1 => ?_)
  ·
    have p1 := c1
    try simp only [CN] at p1
    refine WC.seq fun Fh4_ h4_ => ?_
    refine WC.region ?_
    refine RG.op _ _ rfl rfl (o_call Ty.cal12 (wakes_c) trivial (by exact pua rfl)) ?_
    refine RG.op _ _ rfl rfl (o_assign (.v _) rfl) ?_
    refine RG.nil (h4_ _ ?_)
    refine WC.ret ?_
    exact Ends.r1 rfl (.tmp _ (.v _) rfl) (.v _) (rfl)
  ·
    have p1 := c1
    try simp only [CN] at p1
    have hc : aggB op = true := by have a := c1; cases h : aggB op with | true => rfl | false => rw [h] at a; simp at a
    have hg : l.length ≤ 300 := great_not (by have a := c1; cases h : greatM l with | false => rfl | true => rw [h] at a; simp at a)
    have hl40 : l.length ≤ 1099511627776 := by omega
    have hR := foldF_room (op := op) hl40 hi
    have hn1 : (foldF op l).n + 1 ≤ 1099511627776 := by have := hR.2.1; omega
    have hR2 : Room (s2 op (foldF op l)) := s2_room hR.1 hn1
    refine WC.skip (h2_ _ ?_)
    refine WC.seq fun Fh5_ h5_ => ?_
    refine WC.region ?_
    refine RG.op _ _ rfl rfl (o_move (.v _) rfl) ?_
    refine RG.op _ _ rfl rfl (o_move (.rd _ _) rfl) ?_
    refine RG.op _ _ rfl rfl (OpX.d (x_call Ty.cal15 (fed_at op l hc hl40 hi 2 rfl) ⟨.inl rfl, .inl rfl, trivial⟩) (hle2 _ _ _)) ?_
    refine RG.op _ _ rfl rfl (o_assign (.ptr _ _ _) rfl) ?_
    refine RG.nil (h5_ _ ?_)
    refine WC.seq fun Fh6_ h6_ => ?_
    refine WC.region ?_
    refine RG.op _ _ rfl rfl (o_move (.ptr _ _ _) rfl) ?_
    refine RG.op _ _ rfl rfl (OpX.d (x_call Ty.cal8 (ans_at op (foldF op l) hc hR.1 2 rfl) ⟨.inl rfl, trivial⟩) (HLe.refl _)) ?_
    refine RG.op _ _ rfl rfl (o_move (.tup _) rfl) ?_
    refine RG.op _ _ rfl rfl (o_extract rfl rfl) ?_
    refine RG.op _ _ rfl rfl (o_extract rfl rfl) ?_
    refine RG.op _ _ rfl rfl (o_alloc (z_of Ty.inf23) rfl) ?_
    refine RG.op _ _ rfl rfl (o_store (d := (.agg [_, _, _])) rfl rfl rfl rfl (sz_of Ty.inf23) (Nat.le_of_ble_eq_true rfl) rfl) ?_
    refine RG.op _ _ rfl rfl (o_assign (.v _) rfl) ?_
    refine RG.nil (h6_ _ ?_)
    refine WC.seq fun Fh7_ h7_ => ?_
    refine WC.region ?_
    refine RG.op _ _ rfl rfl (o_load_ptr_L (xs := [_, _, _]) rfl Try.underlying23 rfl (sz_of Ty.inf23) rfl rfl rfl rfl) ?_
    refine RG.op _ _ rfl rfl (o_build (cs := [B8 0, I64 0, S [], _, _, _]) Try.underlying42 Ty.inf42 (Ty.pl42 Try.underlying42) rfl) ?_
    refine RG.op _ _ rfl rfl (o_alloc (z_of Ty.inf42) rfl) ?_
    refine RG.op _ _ rfl rfl (o_store (d := (.agg [_, _, _, _, _, _])) rfl rfl rfl rfl (sz_of Ty.inf42) (Nat.le_of_ble_eq_true rfl) rfl) ?_
    refine RG.nil (h7_ _ ?_)
    refine WC.seq fun Fh8_ h8_ => ?_
    refine WC.seq fun Fh9_ h9_ => ?_
    refine WC.region ?_
    refine RG.op _ _ rfl rfl (o_move (.v _) rfl) ?_
    refine RG.op _ _ rfl rfl (o_eqB (b := 27) rfl rfl) ?_
    refine RG.op _ _ rfl rfl (o_move (.v _) rfl) ?_
    refine RG.opg1 _ _ _ _ _ rfl rfl rfl rfl rfl (fun hb => o_move (.v _) rfl) ?_
    refine RG.opg1 _ _ _ _ _ rfl rfl rfl rfl rfl (fun hb => o_eqB (b := 28) (gdT hb) rfl) ?_
    refine RG.op _ _ rfl rfl (o_or _ _ rfl rfl rfl) ?_
    refine RG.nil (h9_ _ ?_)
    refine WC.cond _ rfl (fun c6 => ?_) (fun c6 => ?_)
    ·
      have p6 := c6
      try simp only [CN] at p6
      have h6 : op = 27 ∨ op = 28 := by simpa using c6
      refine WC.region ?_
      refine RG.op _ _ rfl rfl (o_load_ptr_L (xs := [_, _, _]) rfl Try.underlying23 rfl (sz_of Ty.inf23) rfl rfl rfl rfl) ?_
      refine RG.op _ _ rfl rfl (o_build (cs := [_, _, _, B8 0, I64 0, S []]) Try.underlying42 Ty.inf42 (Ty.pl42 Try.underlying42) rfl) ?_
      refine RG.op _ _ rfl rfl (o_store (d := (.agg [_, _, _, _, _, _])) rfl rfl rfl rfl (sz_of Ty.inf42) (Nat.le_of_ble_eq_true rfl) rfl) ?_
      refine RG.nil (h8_ _ ?_)
      refine WC.seq fun Fh10_ h10_ => ?_
      refine WC.seq fun Fh11_ h11_ => ?_
      refine WC.region ?_
      refine RG.op _ _ rfl rfl (o_move (.v _) rfl) ?_
      refine RG.op _ _ rfl rfl (o_eqB (b := 24) rfl rfl) ?_
      refine RG.op _ _ rfl rfl (o_move (.v _) rfl) ?_
      refine RG.opg1 _ _ _ _ _ rfl rfl rfl rfl rfl (fun hb => o_move (.v _) rfl) ?_
      refine RG.opg1 _ _ _ _ _ rfl rfl rfl rfl rfl (fun hb => o_eqB (b := 25) (gdT hb) rfl) ?_
      refine RG.op _ _ rfl rfl (o_or _ _ rfl rfl rfl) ?_
      refine RG.op _ _ rfl rfl (o_move (.v _) rfl) ?_
      refine RG.opg1 _ _ _ _ _ rfl rfl rfl rfl rfl (fun hb => o_move (.rd _ _) rfl) ?_
      refine RG.opg1 _ _ _ _ _ rfl rfl rfl rfl rfl (fun hb => o_len_rd (gdT hb) Try.underlying35) ?_
      refine RG.opg1 _ _ _ _ _ rfl rfl rfl rfl rfl (fun hb => o_gtI (gdT hb) rfl) ?_
      refine RG.op _ _ rfl rfl (o_and _ _ rfl rfl rfl) ?_
      refine RG.op _ _ rfl rfl (o_move (.v _) rfl) ?_
      refine RG.opg1 _ _ _ _ _ rfl rfl rfl rfl rfl (fun hb => o_move (.v _) rfl) ?_
      refine RG.opg1 _ _ _ _ _ rfl rfl rfl rfl rfl (fun hb => o_geI (gdT hb) rfl) ?_
      refine RG.op _ _ rfl rfl (o_and _ _ rfl rfl rfl) ?_
      refine RG.nil (h11_ _ ?_)
      refine WC.cond _ rfl (fun c8 => ?_) (fun c8 => ?_)
      ·
        have p8 := c8
        try simp only [CN] at p8
        have h8 : ((op = 24 ∨ op = 25) ∧ 0 < l.length) ∧ 0 ≤ k := by have a := c8; simp at a; exact a
        have hJ := idx9 h8.1.2 h8.2
        refine WC.region ?_
        refine RG.op _ _ rfl rfl (o_move (.rd _ _) rfl) ?_
        refine RG.op _ _ rfl rfl (o_move (.v _) rfl) ?_
        refine RG.op _ _ rfl rfl (o_move (.rd _ _) rfl) ?_
        refine RG.op _ _ rfl rfl (o_len_rd rfl Try.underlying35) ?_
        refine RG.op _ _ rfl rfl (o_rem rfl rfl h8.2 (by have := h8.1.2; omega)) ?_
        refine RG.op _ _ rfl rfl (o_ixn_L (l := l) (f := pv) (k % (l.length : Int)).toNat pv_len rfl rfl rfl Try.underlying35 (sz_of Ty.inf42) (idx9e h8.1.2 h8.2) hJ) ?_
        refine RG.op _ _ rfl rfl (o_load_adr_L (xs := [_, _, _, _, _, _]) rfl Try.underlying42 rfl (sz_of Ty.inf42) rfl) ?_
        refine RG.op _ _ rfl rfl (o_store (d := (.agg [_, _, _, _, _, _])) rfl rfl rfl rfl (sz_of Ty.inf42) (Nat.le_of_ble_eq_true rfl) rfl) ?_
        refine RG.nil (h10_ _ ?_)
        refine WC.seq fun Fh12_ h12_ => ?_
        refine WC.region ?_
        refine RG.op _ _ rfl rfl (o_move (.ptr _ _ _) rfl) ?_
        refine RG.op _ _ rfl rfl (o_fld_ptr rfl Try.underlying42 rfl (sz_of Ty.inf23) (by decide)) ?_
        refine RG.op _ _ rfl rfl (o_load_ptr_L (xs := [_, _, _]) rfl Try.underlying23 rfl (sz_of Ty.inf23) rfl rfl rfl rfl) ?_
        refine RG.op _ _ rfl rfl (o_fld_ptr rfl Try.underlying42 rfl (sz_of Ty.inf23) (by decide)) ?_
        refine RG.op _ _ rfl rfl (o_load_ptr_L (xs := [_, _, _]) rfl Try.underlying23 rfl (sz_of Ty.inf23) rfl rfl rfl rfl) ?_
        first | refine RG.op _ _ rfl rfl (OpX.d (x_call Ty.cal7 (FunM.frame (ds := [_, _, _]) [2] [_] [_] [] (feed_s op (foldF op l) v z0 hc hR.1 hn1 ⟨hv.1, hv.2.1⟩) (by decide) ⟨rfl, trivial⟩ ⟨.pure (by repeat (first | exact pu_pvs _ | exact pu_bytes _ | exact pu_nil | exact pu_vs rfl | exact pu_map (fun _ => .v _) _ | exact pu_vals _ | refine pu_app ?_ ?_ | refine pu_cons (by exact pu_of rfl) ?_)), trivial⟩ ⟨.ptr _ _ _ rfl, .pure _ (by exact pu_of rfl), .pure _ (by exact pu_of rfl), trivial⟩ rfl ⟨.pure (by repeat (first | exact pu_pvs _ | exact pu_bytes _ | exact pu_nil | exact pu_vs rfl | exact pu_map (fun _ => .v _) _ | exact pu_vals _ | refine pu_app ?_ ?_ | refine pu_cons (by exact pu_of rfl) ?_)), trivial⟩ (.pure _ (by exact pu_of rfl)) rfl) ⟨.inl rfl, .inl rfl, .inl rfl, trivial⟩) (VLe.le (by repeat (first | exact trivial | refine And.intro (Nat.le_refl _) ?_ | refine And.intro trivial ?_ | refine And.intro (by show _ ≤ _; (first | omega | (simp only [LS, len_pvs] <;> omega))) ?_)))) ?_ | refine RG.op _ _ rfl rfl (OpX.d (x_call Ty.cal7 (FunM.frame (ds := [_, _, _]) [2] [_] [_] [] (feed_s op (foldF op l) z0 v hc hR.1 hn1 ⟨by decide, by decide⟩) (by decide) ⟨rfl, trivial⟩ ⟨.pure (by repeat (first | exact pu_pvs _ | exact pu_bytes _ | exact pu_nil | exact pu_vs rfl | exact pu_map (fun _ => .v _) _ | exact pu_vals _ | refine pu_app ?_ ?_ | refine pu_cons (by exact pu_of rfl) ?_)), trivial⟩ ⟨.ptr _ _ _ rfl, .pure _ (by exact pu_of rfl), .pure _ (by exact pu_of rfl), trivial⟩ rfl ⟨.pure (by repeat (first | exact pu_pvs _ | exact pu_bytes _ | exact pu_nil | exact pu_vs rfl | exact pu_map (fun _ => .v _) _ | exact pu_vals _ | refine pu_app ?_ ?_ | refine pu_cons (by exact pu_of rfl) ?_)), trivial⟩ (.pure _ (by exact pu_of rfl)) rfl) ⟨.inl rfl, .inl rfl, .inl rfl, trivial⟩) (VLe.le (by repeat (first | exact trivial | refine And.intro (Nat.le_refl _) ?_ | refine And.intro trivial ?_ | refine And.intro (by show _ ≤ _; (first | omega | (simp only [LS, len_pvs] <;> omega))) ?_)))) ?_ | refine RG.op _ _ rfl rfl (OpX.d (x_call Ty.cal7 (FunM.frame (ds := [_, _, _]) [2] [_] [_] [] (feed_s op (foldF op l) (l[(k % (l.length : Int)).toNat]'hJ).1 (l[(k % (l.length : Int)).toNat]'hJ).2 hc hR.1 hn1 (hi _ (List.getElem_mem hJ))) (by decide) ⟨rfl, trivial⟩ ⟨.pure (by repeat (first | exact pu_pvs _ | exact pu_bytes _ | exact pu_nil | exact pu_vs rfl | exact pu_map (fun _ => .v _) _ | exact pu_vals _ | refine pu_app ?_ ?_ | refine pu_cons (by exact pu_of rfl) ?_)), trivial⟩ ⟨.ptr _ _ _ rfl, .pure _ (by exact pu_of rfl), .pure _ (by exact pu_of rfl), trivial⟩ rfl ⟨.pure (by repeat (first | exact pu_pvs _ | exact pu_bytes _ | exact pu_nil | exact pu_vs rfl | exact pu_map (fun _ => .v _) _ | exact pu_vals _ | refine pu_app ?_ ?_ | refine pu_cons (by exact pu_of rfl) ?_)), trivial⟩ (.pure _ (by exact pu_of rfl)) rfl) ⟨.inl rfl, .inl rfl, .inl rfl, trivial⟩) (VLe.le (by repeat (first | exact trivial | refine And.intro (Nat.le_refl _) ?_ | refine And.intro trivial ?_ | refine And.intro (by show _ ≤ _; (first | omega | (simp only [LS, len_pvs] <;> omega))) ?_)))) ?_
        refine RG.nil (h12_ _ ?_)
        refine WC.seq fun Fh13_ h13_ => ?_
        first | refine WC.reH [some ⟨vc v, 23, false, 0⟩, wb op, sb op (s2 op (foldF op l)), some ⟨vc (ansM op (foldF op l)).1, 23, false, 0⟩, some ⟨vc v ++ vc z0, 42, false, 0⟩] (congrArg (fun q => [some ⟨vc v, 23, false, 0⟩, wb op, sb op q, some ⟨vc (ansM op (foldF op l)).1, 23, false, 0⟩, some ⟨vc v ++ vc z0, 42, false, 0⟩]) (nul_r7 h6)) ?_ | refine WC.reH [some ⟨vc v, 23, false, 0⟩, wb op, sb op (s2 op (foldF op l)), some ⟨vc (ansM op (foldF op l)).1, 23, false, 0⟩, some ⟨vc z0 ++ vc v, 42, false, 0⟩] (congrArg (fun q => [some ⟨vc v, 23, false, 0⟩, wb op, sb op q, some ⟨vc (ansM op (foldF op l)).1, 23, false, 0⟩, some ⟨vc z0 ++ vc v, 42, false, 0⟩]) (nul_r0 hc h6)) ?_ | refine WC.reH [some ⟨vc v, 23, false, 0⟩, wb op, sb op (s2 op (foldF op l)), some ⟨vc (ansM op (foldF op l)).1, 23, false, 0⟩, some ⟨pv (l[(k % (l.length : Int)).toNat]'hJ), 42, false, 0⟩] (congrArg (fun q => [some ⟨vc v, 23, false, 0⟩, wb op, sb op q, some ⟨vc (ansM op (foldF op l)).1, 23, false, 0⟩, some ⟨pv (l[(k % (l.length : Int)).toNat]'hJ), 42, false, 0⟩]) (nul_r9 h8.1.1 (List.getElem_mem hJ))) ?_
        refine WC.region ?_
        refine RG.op _ _ rfl rfl (o_move (.ptr _ _ _) rfl) ?_
        refine RG.op _ _ rfl rfl (OpX.d (x_call Ty.cal8 (ans_at op (s2 op (foldF op l)) hc hR2 2 rfl) ⟨.inl rfl, trivial⟩) (HLe.refl _)) ?_
        refine RG.op _ _ rfl rfl (o_move (.tup _) rfl) ?_
        refine RG.op _ _ rfl rfl (o_extract rfl rfl) ?_
        refine RG.op _ _ rfl rfl (o_extract rfl rfl) ?_
        refine RG.op _ _ rfl rfl (o_alloc (z_of Ty.inf23) rfl) ?_
        refine RG.op _ _ rfl rfl (o_store (d := (.agg [_, _, _])) rfl rfl rfl rfl (sz_of Ty.inf23) (Nat.le_of_ble_eq_true rfl) rfl) ?_
        refine RG.op _ _ rfl rfl (o_assign (.v _) rfl) ?_
        refine RG.nil (h13_ _ ?_)
        refine WC.seq fun Fh14_ h14_ => ?_
        refine WC.seq fun Fh15_ h15_ => ?_
        refine WC.region ?_
        refine RG.op _ _ rfl rfl (o_move (.v _) rfl) ?_
        refine RG.op _ _ rfl rfl (o_eqB (b := 21) rfl rfl) ?_
        refine RG.nil (h15_ _ ?_)
        refine WC.cond _ rfl (fun c12 => ?_) (fun c12 => ?_)
        ·
          have p12 := c12
          try simp only [CN] at p12
          have h21 : op = 21 := by simpa using c12
          have hb21 := add21 (s := foldF op l) h21 hn1
          refine WC.seq fun Fh16_ h16_ => ?_
          refine WC.region ?_
          refine RG.op _ _ rfl rfl (o_move (.v _) rfl) ?_
          refine RG.op _ _ rfl rfl (o_eqI rfl rfl) ?_
          refine RG.op _ _ rfl rfl (o_move (.v _) rfl) ?_
          refine RG.opg1 _ _ _ _ _ rfl rfl rfl rfl rfl (fun hb => o_move (.v _) rfl) ?_
          refine RG.opg1 _ _ _ _ _ rfl rfl rfl rfl rfl (fun hb => o_eqI (gdT hb) rfl) ?_
          refine RG.op _ _ rfl rfl (o_and _ _ rfl rfl rfl) ?_
          refine RG.op _ _ rfl rfl (o_move (.v _) rfl) ?_
          refine RG.opg1 _ _ _ _ _ rfl rfl rfl rfl rfl (fun hb => o_fld_ptr rfl Try.underlying23 rfl (sz_of Ty.inf2) (by decide)) ?_
          refine RG.opg1 _ _ _ _ _ rfl rfl rfl rfl rfl (fun hb => o_load_ptr (gdT hb) Try.underlying2 rfl rfl rfl rfl) ?_
          refine RG.opg1 _ _ _ _ _ rfl rfl rfl rfl rfl (fun hb => o_fld_ptr rfl Try.underlying23 rfl (sz_of Ty.inf2) (by decide)) ?_
          refine RG.opg1 _ _ _ _ _ rfl rfl rfl rfl rfl (fun hb => o_load_ptr (gdT hb) Try.underlying2 rfl rfl rfl rfl) ?_
          refine RG.opg1 _ _ _ _ _ rfl rfl rfl rfl rfl (fun hb => o_add (a := (ansM op (foldF op l)).1.i) (b := 1) (gdT hb) rfl hb21.1 hb21.2) ?_
          refine RG.opg1 _ _ _ _ _ rfl rfl rfl rfl rfl (fun hb => o_eqI (gdT hb) (gdT hb)) ?_
          refine RG.op _ _ rfl rfl (o_and _ _ rfl rfl rfl) ?_
          refine RG.op _ _ rfl rfl (o_move (.v _) rfl) ?_
          refine RG.opg1 _ _ _ _ _ rfl rfl rfl rfl rfl (fun hb => o_call Ty.cal12 (wakes_c) trivial (by exact pua rfl)) ?_
          refine RG.op _ _ rfl rfl (o_and _ _ rfl rfl rfl) ?_
          refine RG.op _ _ rfl rfl (o_assign (.v _) rfl) ?_
          refine RG.nil (h16_ _ ?_)
          refine WC.ret ?_
          exact Ends.r1 rfl (.tmp _ (.v _) rfl) (.v _) (congrArg Bo (fin21 h21))
        ·
          have p12 := c12
          try simp only [CN] at p12
          have h21 : op ≠ 21 := by simpa using c12
          refine WC.skip (h14_ _ ?_)
          refine WC.seq fun Fh17_ h17_ => ?_
          refine WC.region ?_
          refine RG.op _ _ rfl rfl (o_move (.v _) rfl) ?_
          refine RG.op _ _ rfl rfl (o_move (.v _) rfl) ?_
          refine RG.op _ _ rfl rfl (o_eqI rfl rfl) ?_
          refine RG.op _ _ rfl rfl (o_move (.v _) rfl) ?_
          refine RG.opg1 _ _ _ _ _ rfl rfl rfl rfl rfl (fun hb => o_load_ptr_L (xs := [_, _, _]) rfl Try.underlying23 rfl (sz_of Ty.inf23) rfl rfl rfl rfl) ?_
          refine RG.opg1 _ _ _ _ _ rfl rfl rfl rfl rfl (fun hb => o_load_ptr_L (xs := [_, _, _]) rfl Try.underlying23 rfl (sz_of Ty.inf23) rfl rfl rfl rfl) ?_
          refine RG.opg1 _ _ _ _ _ rfl rfl rfl rfl rfl (fun hb => o_eqV Ty.fs23 (gdT hb) (gdT hb)) ?_
          refine RG.op _ _ rfl rfl (o_and _ _ rfl rfl rfl) ?_
          refine RG.op _ _ rfl rfl (o_move (.v _) rfl) ?_
          refine RG.opg1 _ _ _ _ _ rfl rfl rfl rfl rfl (fun hb => o_call Ty.cal12 (wakes_c) trivial (by exact pua rfl)) ?_
          refine RG.op _ _ rfl rfl (o_and _ _ rfl rfl rfl) ?_
          refine RG.op _ _ rfl rfl (o_assign (.v _) rfl) ?_
          refine RG.nil (h17_ _ ?_)
          refine WC.ret ?_
          exact Ends.r1 rfl (.tmp _ (.v _) rfl) (.v _) (congrArg Bo (by rw [ans_not h21]; simp))
      ·
        have p8 := c8
        try simp only [CN] at p8
        refine WC.skip (h10_ _ ?_)
        refine WC.seq fun Fh18_ h18_ => ?_
        refine WC.region ?_
        refine RG.op _ _ rfl rfl (o_move (.ptr _ _ _) rfl) ?_
        refine RG.op _ _ rfl rfl (o_fld_ptr rfl Try.underlying42 rfl (sz_of Ty.inf23) (by decide)) ?_
        refine RG.op _ _ rfl rfl (o_load_ptr_L (xs := [_, _, _]) rfl Try.underlying23 rfl (sz_of Ty.inf23) rfl rfl rfl rfl) ?_
        refine RG.op _ _ rfl rfl (o_fld_ptr rfl Try.underlying42 rfl (sz_of Ty.inf23) (by decide)) ?_
        refine RG.op _ _ rfl rfl (o_load_ptr_L (xs := [_, _, _]) rfl Try.underlying23 rfl (sz_of Ty.inf23) rfl rfl rfl rfl) ?_
        first | refine RG.op _ _ rfl rfl (OpX.d (x_call Ty.cal7 (FunM.frame (ds := [_, _, _]) [2] [_] [_] [] (feed_s op (foldF op l) v z0 hc hR.1 hn1 ⟨hv.1, hv.2.1⟩) (by decide) ⟨rfl, trivial⟩ ⟨.pure (by repeat (first | exact pu_pvs _ | exact pu_bytes _ | exact pu_nil | exact pu_vs rfl | exact pu_map (fun _ => .v _) _ | exact pu_vals _ | refine pu_app ?_ ?_ | refine pu_cons (by exact pu_of rfl) ?_)), trivial⟩ ⟨.ptr _ _ _ rfl, .pure _ (by exact pu_of rfl), .pure _ (by exact pu_of rfl), trivial⟩ rfl ⟨.pure (by repeat (first | exact pu_pvs _ | exact pu_bytes _ | exact pu_nil | exact pu_vs rfl | exact pu_map (fun _ => .v _) _ | exact pu_vals _ | refine pu_app ?_ ?_ | refine pu_cons (by exact pu_of rfl) ?_)), trivial⟩ (.pure _ (by exact pu_of rfl)) rfl) ⟨.inl rfl, .inl rfl, .inl rfl, trivial⟩) (VLe.le (by repeat (first | exact trivial | refine And.intro (Nat.le_refl _) ?_ | refine And.intro trivial ?_ | refine And.intro (by show _ ≤ _; (first | omega | (simp only [LS, len_pvs] <;> omega))) ?_)))) ?_ | refine RG.op _ _ rfl rfl (OpX.d (x_call Ty.cal7 (FunM.frame (ds := [_, _, _]) [2] [_] [_] [] (feed_s op (foldF op l) z0 v hc hR.1 hn1 ⟨by decide, by decide⟩) (by decide) ⟨rfl, trivial⟩ ⟨.pure (by repeat (first | exact pu_pvs _ | exact pu_bytes _ | exact pu_nil | exact pu_vs rfl | exact pu_map (fun _ => .v _) _ | exact pu_vals _ | refine pu_app ?_ ?_ | refine pu_cons (by exact pu_of rfl) ?_)), trivial⟩ ⟨.ptr _ _ _ rfl, .pure _ (by exact pu_of rfl), .pure _ (by exact pu_of rfl), trivial⟩ rfl ⟨.pure (by repeat (first | exact pu_pvs _ | exact pu_bytes _ | exact pu_nil | exact pu_vs rfl | exact pu_map (fun _ => .v _) _ | exact pu_vals _ | refine pu_app ?_ ?_ | refine pu_cons (by exact pu_of rfl) ?_)), trivial⟩ (.pure _ (by exact pu_of rfl)) rfl) ⟨.inl rfl, .inl rfl, .inl rfl, trivial⟩) (VLe.le (by repeat (first | exact trivial | refine And.intro (Nat.le_refl _) ?_ | refine And.intro trivial ?_ | refine And.intro (by show _ ≤ _; (first | omega | (simp only [LS, len_pvs] <;> omega))) ?_)))) ?_ | refine RG.op _ _ rfl rfl (OpX.d (x_call Ty.cal7 (FunM.frame (ds := [_, _, _]) [2] [_] [_] [] (feed_s op (foldF op l) (l[(k % (l.length : Int)).toNat]'hJ).1 (l[(k % (l.length : Int)).toNat]'hJ).2 hc hR.1 hn1 (hi _ (List.getElem_mem hJ))) (by decide) ⟨rfl, trivial⟩ ⟨.pure (by repeat (first | exact pu_pvs _ | exact pu_bytes _ | exact pu_nil | exact pu_vs rfl | exact pu_map (fun _ => .v _) _ | exact pu_vals _ | refine pu_app ?_ ?_ | refine pu_cons (by exact pu_of rfl) ?_)), trivial⟩ ⟨.ptr _ _ _ rfl, .pure _ (by exact pu_of rfl), .pure _ (by exact pu_of rfl), trivial⟩ rfl ⟨.pure (by repeat (first | exact pu_pvs _ | exact pu_bytes _ | exact pu_nil | exact pu_vs rfl | exact pu_map (fun _ => .v _) _ | exact pu_vals _ | refine pu_app ?_ ?_ | refine pu_cons (by exact pu_of rfl) ?_)), trivial⟩ (.pure _ (by exact pu_of rfl)) rfl) ⟨.inl rfl, .inl rfl, .inl rfl, trivial⟩) (VLe.le (by repeat (first | exact trivial | refine And.intro (Nat.le_refl _) ?_ | refine And.intro trivial ?_ | refine And.intro (by show _ ≤ _; (first | omega | (simp only [LS, len_pvs] <;> omega))) ?_)))) ?_
        refine RG.nil (h18_ _ ?_)
        refine WC.seq fun Fh19_ h19_ => ?_
        first | refine WC.reH [some ⟨vc v, 23, false, 0⟩, wb op, sb op (s2 op (foldF op l)), some ⟨vc (ansM op (foldF op l)).1, 23, false, 0⟩, some ⟨vc v ++ vc z0, 42, false, 0⟩] (congrArg (fun q => [some ⟨vc v, 23, false, 0⟩, wb op, sb op q, some ⟨vc (ansM op (foldF op l)).1, 23, false, 0⟩, some ⟨vc v ++ vc z0, 42, false, 0⟩]) (nul_r7 h6)) ?_ | refine WC.reH [some ⟨vc v, 23, false, 0⟩, wb op, sb op (s2 op (foldF op l)), some ⟨vc (ansM op (foldF op l)).1, 23, false, 0⟩, some ⟨vc z0 ++ vc v, 42, false, 0⟩] (congrArg (fun q => [some ⟨vc v, 23, false, 0⟩, wb op, sb op q, some ⟨vc (ansM op (foldF op l)).1, 23, false, 0⟩, some ⟨vc z0 ++ vc v, 42, false, 0⟩]) (nul_r0 hc h6)) ?_ | refine WC.reH [some ⟨vc v, 23, false, 0⟩, wb op, sb op (s2 op (foldF op l)), some ⟨vc (ansM op (foldF op l)).1, 23, false, 0⟩, some ⟨pv (l[(k % (l.length : Int)).toNat]'hJ), 42, false, 0⟩] (congrArg (fun q => [some ⟨vc v, 23, false, 0⟩, wb op, sb op q, some ⟨vc (ansM op (foldF op l)).1, 23, false, 0⟩, some ⟨pv (l[(k % (l.length : Int)).toNat]'hJ), 42, false, 0⟩]) (nul_r9 h8.1.1 (List.getElem_mem hJ))) ?_
        refine WC.region ?_
        refine RG.op _ _ rfl rfl (o_move (.ptr _ _ _) rfl) ?_
        refine RG.op _ _ rfl rfl (OpX.d (x_call Ty.cal8 (ans_at op (s2 op (foldF op l)) hc hR2 2 rfl) ⟨.inl rfl, trivial⟩) (HLe.refl _)) ?_
        refine RG.op _ _ rfl rfl (o_move (.tup _) rfl) ?_
        refine RG.op _ _ rfl rfl (o_extract rfl rfl) ?_
        refine RG.op _ _ rfl rfl (o_extract rfl rfl) ?_
        refine RG.op _ _ rfl rfl (o_alloc (z_of Ty.inf23) rfl) ?_
        refine RG.op _ _ rfl rfl (o_store (d := (.agg [_, _, _])) rfl rfl rfl rfl (sz_of Ty.inf23) (Nat.le_of_ble_eq_true rfl) rfl) ?_
        refine RG.op _ _ rfl rfl (o_assign (.v _) rfl) ?_
        refine RG.nil (h19_ _ ?_)
        refine WC.seq fun Fh20_ h20_ => ?_
        refine WC.seq fun Fh21_ h21_ => ?_
        refine WC.region ?_
        refine RG.op _ _ rfl rfl (o_move (.v _) rfl) ?_
        refine RG.op _ _ rfl rfl (o_eqB (b := 21) rfl rfl) ?_
        refine RG.nil (h21_ _ ?_)
        refine WC.cond _ rfl (fun c12 => ?_) (fun c12 => ?_)
        ·
          have p12 := c12
          try simp only [CN] at p12
          have h21 : op = 21 := by simpa using c12
          have hb21 := add21 (s := foldF op l) h21 hn1
          refine WC.seq fun Fh22_ h22_ => ?_
          refine WC.region ?_
          refine RG.op _ _ rfl rfl (o_move (.v _) rfl) ?_
          refine RG.op _ _ rfl rfl (o_eqI rfl rfl) ?_
          refine RG.op _ _ rfl rfl (o_move (.v _) rfl) ?_
          refine RG.opg1 _ _ _ _ _ rfl rfl rfl rfl rfl (fun hb => o_move (.v _) rfl) ?_
          refine RG.opg1 _ _ _ _ _ rfl rfl rfl rfl rfl (fun hb => o_eqI (gdT hb) rfl) ?_
          refine RG.op _ _ rfl rfl (o_and _ _ rfl rfl rfl) ?_
          refine RG.op _ _ rfl rfl (o_move (.v _) rfl) ?_
          refine RG.opg1 _ _ _ _ _ rfl rfl rfl rfl rfl (fun hb => o_fld_ptr rfl Try.underlying23 rfl (sz_of Ty.inf2) (by decide)) ?_
          refine RG.opg1 _ _ _ _ _ rfl rfl rfl rfl rfl (fun hb => o_load_ptr (gdT hb) Try.underlying2 rfl rfl rfl rfl) ?_
          refine RG.opg1 _ _ _ _ _ rfl rfl rfl rfl rfl (fun hb => o_fld_ptr rfl Try.underlying23 rfl (sz_of Ty.inf2) (by decide)) ?_
          refine RG.opg1 _ _ _ _ _ rfl rfl rfl rfl rfl (fun hb => o_load_ptr (gdT hb) Try.underlying2 rfl rfl rfl rfl) ?_
          refine RG.opg1 _ _ _ _ _ rfl rfl rfl rfl rfl (fun hb => o_add (a := (ansM op (foldF op l)).1.i) (b := 1) (gdT hb) rfl hb21.1 hb21.2) ?_
          refine RG.opg1 _ _ _ _ _ rfl rfl rfl rfl rfl (fun hb => o_eqI (gdT hb) (gdT hb)) ?_
          refine RG.op _ _ rfl rfl (o_and _ _ rfl rfl rfl) ?_
          refine RG.op _ _ rfl rfl (o_move (.v _) rfl) ?_
          refine RG.opg1 _ _ _ _ _ rfl rfl rfl rfl rfl (fun hb => o_call Ty.cal12 (wakes_c) trivial (by exact pua rfl)) ?_
          refine RG.op _ _ rfl rfl (o_and _ _ rfl rfl rfl) ?_
          refine RG.op _ _ rfl rfl (o_assign (.v _) rfl) ?_
          refine RG.nil (h22_ _ ?_)
          refine WC.ret ?_
          exact Ends.r1 rfl (.tmp _ (.v _) rfl) (.v _) (congrArg Bo (fin21 h21))
        ·
          have p12 := c12
          try simp only [CN] at p12
          have h21 : op ≠ 21 := by simpa using c12
          refine WC.skip (h20_ _ ?_)
          refine WC.seq fun Fh23_ h23_ => ?_
          refine WC.region ?_
          refine RG.op _ _ rfl rfl (o_move (.v _) rfl) ?_
          refine RG.op _ _ rfl rfl (o_move (.v _) rfl) ?_
          refine RG.op _ _ rfl rfl (o_eqI rfl rfl) ?_
          refine RG.op _ _ rfl rfl (o_move (.v _) rfl) ?_
          refine RG.opg1 _ _ _ _ _ rfl rfl rfl rfl rfl (fun hb => o_load_ptr_L (xs := [_, _, _]) rfl Try.underlying23 rfl (sz_of Ty.inf23) rfl rfl rfl rfl) ?_
          refine RG.opg1 _ _ _ _ _ rfl rfl rfl rfl rfl (fun hb => o_load_ptr_L (xs := [_, _, _]) rfl Try.underlying23 rfl (sz_of Ty.inf23) rfl rfl rfl rfl) ?_
          refine RG.opg1 _ _ _ _ _ rfl rfl rfl rfl rfl (fun hb => o_eqV Ty.fs23 (gdT hb) (gdT hb)) ?_
          refine RG.op _ _ rfl rfl (o_and _ _ rfl rfl rfl) ?_
          refine RG.op _ _ rfl rfl (o_move (.v _) rfl) ?_
          refine RG.opg1 _ _ _ _ _ rfl rfl rfl rfl rfl (fun hb => o_call Ty.cal12 (wakes_c) trivial (by exact pua rfl)) ?_
          refine RG.op _ _ rfl rfl (o_and _ _ rfl rfl rfl) ?_
          refine RG.op _ _ rfl rfl (o_assign (.v _) rfl) ?_
          refine RG.nil (h23_ _ ?_)
          refine WC.ret ?_
          exact Ends.r1 rfl (.tmp _ (.v _) rfl) (.v _) (congrArg Bo (by rw [ans_not h21]; simp))
    ·
      have p6 := c6
      try simp only [CN] at p6
      have h6 : ¬ (op = 27 ∨ op = 28) := by simpa using c6
      refine WC.skip (h8_ _ ?_)
      refine WC.seq fun Fh24_ h24_ => ?_
      refine WC.seq fun Fh25_ h25_ => ?_
      refine WC.region ?_
      refine RG.op _ _ rfl rfl (o_move (.v _) rfl) ?_
      refine RG.op _ _ rfl rfl (o_eqB (b := 24) rfl rfl) ?_
      refine RG.op _ _ rfl rfl (o_move (.v _) rfl) ?_
      refine RG.opg1 _ _ _ _ _ rfl rfl rfl rfl rfl (fun hb => o_move (.v _) rfl) ?_
      refine RG.opg1 _ _ _ _ _ rfl rfl rfl rfl rfl (fun hb => o_eqB (b := 25) (gdT hb) rfl) ?_
      refine RG.op _ _ rfl rfl (o_or _ _ rfl rfl rfl) ?_
      refine RG.op _ _ rfl rfl (o_move (.v _) rfl) ?_
      refine RG.opg1 _ _ _ _ _ rfl rfl rfl rfl rfl (fun hb => o_move (.rd _ _) rfl) ?_
      refine RG.opg1 _ _ _ _ _ rfl rfl rfl rfl rfl (fun hb => o_len_rd (gdT hb) Try.underlying35) ?_
      refine RG.opg1 _ _ _ _ _ rfl rfl rfl rfl rfl (fun hb => o_gtI (gdT hb) rfl) ?_
      refine RG.op _ _ rfl rfl (o_and _ _ rfl rfl rfl) ?_
      refine RG.op _ _ rfl rfl (o_move (.v _) rfl) ?_
      refine RG.opg1 _ _ _ _ _ rfl rfl rfl rfl rfl (fun hb => o_move (.v _) rfl) ?_
      refine RG.opg1 _ _ _ _ _ rfl rfl rfl rfl rfl (fun hb => o_geI (gdT hb) rfl) ?_
      refine RG.op _ _ rfl rfl (o_and _ _ rfl rfl rfl) ?_
      refine RG.nil (h25_ _ ?_)
      refine WC.cond _ rfl (fun c8 => ?_) (fun c8 => ?_)
      ·
        have p8 := c8
        try simp only [CN] at p8
        have h8 : ((op = 24 ∨ op = 25) ∧ 0 < l.length) ∧ 0 ≤ k := by have a := c8; simp at a; exact a
        have hJ := idx9 h8.1.2 h8.2
        refine WC.region ?_
        refine RG.op _ _ rfl rfl (o_move (.rd _ _) rfl) ?_
        refine RG.op _ _ rfl rfl (o_move (.v _) rfl) ?_
        refine RG.op _ _ rfl rfl (o_move (.rd _ _) rfl) ?_
        refine RG.op _ _ rfl rfl (o_len_rd rfl Try.underlying35) ?_
        refine RG.op _ _ rfl rfl (o_rem rfl rfl h8.2 (by have := h8.1.2; omega)) ?_
        refine RG.op _ _ rfl rfl (o_ixn_L (l := l) (f := pv) (k % (l.length : Int)).toNat pv_len rfl rfl rfl Try.underlying35 (sz_of Ty.inf42) (idx9e h8.1.2 h8.2) hJ) ?_
        refine RG.op _ _ rfl rfl (o_load_adr_L (xs := [_, _, _, _, _, _]) rfl Try.underlying42 rfl (sz_of Ty.inf42) rfl) ?_
        refine RG.op _ _ rfl rfl (o_store (d := (.agg [_, _, _, _, _, _])) rfl rfl rfl rfl (sz_of Ty.inf42) (Nat.le_of_ble_eq_true rfl) rfl) ?_
        refine RG.nil (h24_ _ ?_)
        refine WC.seq fun Fh26_ h26_ => ?_
        refine WC.region ?_
        refine RG.op _ _ rfl rfl (o_move (.ptr _ _ _) rfl) ?_
        refine RG.op _ _ rfl rfl (o_fld_ptr rfl Try.underlying42 rfl (sz_of Ty.inf23) (by decide)) ?_
        refine RG.op _ _ rfl rfl (o_load_ptr_L (xs := [_, _, _]) rfl Try.underlying23 rfl (sz_of Ty.inf23) rfl rfl rfl rfl) ?_
        refine RG.op _ _ rfl rfl (o_fld_ptr rfl Try.underlying42 rfl (sz_of Ty.inf23) (by decide)) ?_
        refine RG.op _ _ rfl rfl (o_load_ptr_L (xs := [_, _, _]) rfl Try.underlying23 rfl (sz_of Ty.inf23) rfl rfl rfl rfl) ?_
        first | refine RG.op _ _ rfl rfl (OpX.d (x_call Ty.cal7 (FunM.frame (ds := [_, _, _]) [2] [_] [_] [] (feed_s op (foldF op l) v z0 hc hR.1 hn1 ⟨hv.1, hv.2.1⟩) (by decide) ⟨rfl, trivial⟩ ⟨.pure (by repeat (first | exact pu_pvs _ | exact pu_bytes _ | exact pu_nil | exact pu_vs rfl | exact pu_map (fun _ => .v _) _ | exact pu_vals _ | refine pu_app ?_ ?_ | refine pu_cons (by exact pu_of rfl) ?_)), trivial⟩ ⟨.ptr _ _ _ rfl, .pure _ (by exact pu_of rfl), .pure _ (by exact pu_of rfl), trivial⟩ rfl ⟨.pure (by repeat (first | exact pu_pvs _ | exact pu_bytes _ | exact pu_nil | exact pu_vs rfl | exact pu_map (fun _ => .v _) _ | exact pu_vals _ | refine pu_app ?_ ?_ | refine pu_cons (by exact pu_of rfl) ?_)), trivial⟩ (.pure _ (by exact pu_of rfl)) rfl) ⟨.inl rfl, .inl rfl, .inl rfl, trivial⟩) (VLe.le (by repeat (first | exact trivial | refine And.intro (Nat.le_refl _) ?_ | refine And.intro trivial ?_ | refine And.intro (by show _ ≤ _; (first | omega | (simp only [LS, len_pvs] <;> omega))) ?_)))) ?_ | refine RG.op _ _ rfl rfl (OpX.d (x_call Ty.cal7 (FunM.frame (ds := [_, _, _]) [2] [_] [_] [] (feed_s op (foldF op l) z0 v hc hR.1 hn1 ⟨by decide, by decide⟩) (by decide) ⟨rfl, trivial⟩ ⟨.pure (by repeat (first | exact pu_pvs _ | exact pu_bytes _ | exact pu_nil | exact pu_vs rfl | exact pu_map (fun _ => .v _) _ | exact pu_vals _ | refine pu_app ?_ ?_ | refine pu_cons (by exact pu_of rfl) ?_)), trivial⟩ ⟨.ptr _ _ _ rfl, .pure _ (by exact pu_of rfl), .pure _ (by exact pu_of rfl), trivial⟩ rfl ⟨.pure (by repeat (first | exact pu_pvs _ | exact pu_bytes _ | exact pu_nil | exact pu_vs rfl | exact pu_map (fun _ => .v _) _ | exact pu_vals _ | refine pu_app ?_ ?_ | refine pu_cons (by exact pu_of rfl) ?_)), trivial⟩ (.pure _ (by exact pu_of rfl)) rfl) ⟨.inl rfl, .inl rfl, .inl rfl, trivial⟩) (VLe.le (by repeat (first | exact trivial | refine And.intro (Nat.le_refl _) ?_ | refine And.intro trivial ?_ | refine And.intro (by show _ ≤ _; (first | omega | (simp only [LS, len_pvs] <;> omega))) ?_)))) ?_ | refine RG.op _ _ rfl rfl (OpX.d (x_call Ty.cal7 (FunM.frame (ds := [_, _, _]) [2] [_] [_] [] (feed_s op (foldF op l) (l[(k % (l.length : Int)).toNat]'hJ).1 (l[(k % (l.length : Int)).toNat]'hJ).2 hc hR.1 hn1 (hi _ (List.getElem_mem hJ))) (by decide) ⟨rfl, trivial⟩ ⟨.pure (by repeat (first | exact pu_pvs _ | exact pu_bytes _ | exact pu_nil | exact pu_vs rfl | exact pu_map (fun _ => .v _) _ | exact pu_vals _ | refine pu_app ?_ ?_ | refine pu_cons (by exact pu_of rfl) ?_)), trivial⟩ ⟨.ptr _ _ _ rfl, .pure _ (by exact pu_of rfl), .pure _ (by exact pu_of rfl), trivial⟩ rfl ⟨.pure (by repeat (first | exact pu_pvs _ | exact pu_bytes _ | exact pu_nil | exact pu_vs rfl | exact pu_map (fun _ => .v _) _ | exact pu_vals _ | refine pu_app ?_ ?_ | refine pu_cons (by exact pu_of rfl) ?_)), trivial⟩ (.pure _ (by exact pu_of rfl)) rfl) ⟨.inl rfl, .inl rfl, .inl rfl, trivial⟩) (VLe.le (by repeat (first | exact trivial | refine And.intro (Nat.le_refl _) ?_ | refine And.intro trivial ?_ | refine And.intro (by show _ ≤ _; (first | omega | (simp only [LS, len_pvs] <;> omega))) ?_)))) ?_
        refine RG.nil (h26_ _ ?_)
        refine WC.seq fun Fh27_ h27_ => ?_
        first | refine WC.reH [some ⟨vc v, 23, false, 0⟩, wb op, sb op (s2 op (foldF op l)), some ⟨vc (ansM op (foldF op l)).1, 23, false, 0⟩, some ⟨vc v ++ vc z0, 42, false, 0⟩] (congrArg (fun q => [some ⟨vc v, 23, false, 0⟩, wb op, sb op q, some ⟨vc (ansM op (foldF op l)).1, 23, false, 0⟩, some ⟨vc v ++ vc z0, 42, false, 0⟩]) (nul_r7 h6)) ?_ | refine WC.reH [some ⟨vc v, 23, false, 0⟩, wb op, sb op (s2 op (foldF op l)), some ⟨vc (ansM op (foldF op l)).1, 23, false, 0⟩, some ⟨vc z0 ++ vc v, 42, false, 0⟩] (congrArg (fun q => [some ⟨vc v, 23, false, 0⟩, wb op, sb op q, some ⟨vc (ansM op (foldF op l)).1, 23, false, 0⟩, some ⟨vc z0 ++ vc v, 42, false, 0⟩]) (nul_r0 hc h6)) ?_ | refine WC.reH [some ⟨vc v, 23, false, 0⟩, wb op, sb op (s2 op (foldF op l)), some ⟨vc (ansM op (foldF op l)).1, 23, false, 0⟩, some ⟨pv (l[(k % (l.length : Int)).toNat]'hJ), 42, false, 0⟩] (congrArg (fun q => [some ⟨vc v, 23, false, 0⟩, wb op, sb op q, some ⟨vc (ansM op (foldF op l)).1, 23, false, 0⟩, some ⟨pv (l[(k % (l.length : Int)).toNat]'hJ), 42, false, 0⟩]) (nul_r9 h8.1.1 (List.getElem_mem hJ))) ?_
        refine WC.region ?_
        refine RG.op _ _ rfl rfl (o_move (.ptr _ _ _) rfl) ?_
        refine RG.op _ _ rfl rfl (OpX.d (x_call Ty.cal8 (ans_at op (s2 op (foldF op l)) hc hR2 2 rfl) ⟨.inl rfl, trivial⟩) (HLe.refl _)) ?_
        refine RG.op _ _ rfl rfl (o_move (.tup _) rfl) ?_
        refine RG.op _ _ rfl rfl (o_extract rfl rfl) ?_
        refine RG.op _ _ rfl rfl (o_extract rfl rfl) ?_
        refine RG.op _ _ rfl rfl (o_alloc (z_of Ty.inf23) rfl) ?_
        refine RG.op _ _ rfl rfl (o_store (d := (.agg [_, _, _])) rfl rfl rfl rfl (sz_of Ty.inf23) (Nat.le_of_ble_eq_true rfl) rfl) ?_
        refine RG.op _ _ rfl rfl (o_assign (.v _) rfl) ?_
        refine RG.nil (h27_ _ ?_)
        refine WC.seq fun Fh28_ h28_ => ?_
        refine WC.seq fun Fh29_ h29_ => ?_
        refine WC.region ?_
        refine RG.op _ _ rfl rfl (o_move (.v _) rfl) ?_
        refine RG.op _ _ rfl rfl (o_eqB (b := 21) rfl rfl) ?_
        refine RG.nil (h29_ _ ?_)
        refine WC.cond _ rfl (fun c12 => ?_) (fun c12 => ?_)
        ·
          have p12 := c12
          try simp only [CN] at p12
          have h21 : op = 21 := by simpa using c12
          have hb21 := add21 (s := foldF op l) h21 hn1
          refine WC.seq fun Fh30_ h30_ => ?_
          refine WC.region ?_
          refine RG.op _ _ rfl rfl (o_move (.v _) rfl) ?_
          refine RG.op _ _ rfl rfl (o_eqI rfl rfl) ?_
          refine RG.op _ _ rfl rfl (o_move (.v _) rfl) ?_
          refine RG.opg1 _ _ _ _ _ rfl rfl rfl rfl rfl (fun hb => o_move (.v _) rfl) ?_
          refine RG.opg1 _ _ _ _ _ rfl rfl rfl rfl rfl (fun hb => o_eqI (gdT hb) rfl) ?_
          refine RG.op _ _ rfl rfl (o_and _ _ rfl rfl rfl) ?_
          refine RG.op _ _ rfl rfl (o_move (.v _) rfl) ?_
          refine RG.opg1 _ _ _ _ _ rfl rfl rfl rfl rfl (fun hb => o_fld_ptr rfl Try.underlying23 rfl (sz_of Ty.inf2) (by decide)) ?_
          refine RG.opg1 _ _ _ _ _ rfl rfl rfl rfl rfl (fun hb => o_load_ptr (gdT hb) Try.underlying2 rfl rfl rfl rfl) ?_
          refine RG.opg1 _ _ _ _ _ rfl rfl rfl rfl rfl (fun hb => o_fld_ptr rfl Try.underlying23 rfl (sz_of Ty.inf2) (by decide)) ?_
          refine RG.opg1 _ _ _ _ _ rfl rfl rfl rfl rfl (fun hb => o_load_ptr (gdT hb) Try.underlying2 rfl rfl rfl rfl) ?_
          refine RG.opg1 _ _ _ _ _ rfl rfl rfl rfl rfl (fun hb => o_add (a := (ansM op (foldF op l)).1.i) (b := 1) (gdT hb) rfl hb21.1 hb21.2) ?_
          refine RG.opg1 _ _ _ _ _ rfl rfl rfl rfl rfl (fun hb => o_eqI (gdT hb) (gdT hb)) ?_
          refine RG.op _ _ rfl rfl (o_and _ _ rfl rfl rfl) ?_
          refine RG.op _ _ rfl rfl (o_move (.v _) rfl) ?_
          refine RG.opg1 _ _ _ _ _ rfl rfl rfl rfl rfl (fun hb => o_call Ty.cal12 (wakes_c) trivial (by exact pua rfl)) ?_
          refine RG.op _ _ rfl rfl (o_and _ _ rfl rfl rfl) ?_
          refine RG.op _ _ rfl rfl (o_assign (.v _) rfl) ?_
          refine RG.nil (h30_ _ ?_)
          refine WC.ret ?_
          exact Ends.r1 rfl (.tmp _ (.v _) rfl) (.v _) (congrArg Bo (fin21 h21))
        ·
          have p12 := c12
          try simp only [CN] at p12
          have h21 : op ≠ 21 := by simpa using c12
          refine WC.skip (h28_ _ ?_)
          refine WC.seq fun Fh31_ h31_ => ?_
          refine WC.region ?_
          refine RG.op _ _ rfl rfl (o_move (.v _) rfl) ?_
          refine RG.op _ _ rfl rfl (o_move (.v _) rfl) ?_
          refine RG.op _ _ rfl rfl (o_eqI rfl rfl) ?_
          refine RG.op _ _ rfl rfl (o_move (.v _) rfl) ?_
          refine RG.opg1 _ _ _ _ _ rfl rfl rfl rfl rfl (fun hb => o_load_ptr_L (xs := [_, _, _]) rfl Try.underlying23 rfl (sz_of Ty.inf23) rfl rfl rfl rfl) ?_
          refine RG.opg1 _ _ _ _ _ rfl rfl rfl rfl rfl (fun hb => o_load_ptr_L (xs := [_, _, _]) rfl Try.underlying23 rfl (sz_of Ty.inf23) rfl rfl rfl rfl) ?_
          refine RG.opg1 _ _ _ _ _ rfl rfl rfl rfl rfl (fun hb => o_eqV Ty.fs23 (gdT hb) (gdT hb)) ?_
          refine RG.op _ _ rfl rfl (o_and _ _ rfl rfl rfl) ?_
          refine RG.op _ _ rfl rfl (o_move (.v _) rfl) ?_
          refine RG.opg1 _ _ _ _ _ rfl rfl rfl rfl rfl (fun hb => o_call Ty.cal12 (wakes_c) trivial (by exact pua rfl)) ?_
          refine RG.op _ _ rfl rfl (o_and _ _ rfl rfl rfl) ?_
          refine RG.op _ _ rfl rfl (o_assign (.v _) rfl) ?_
          refine RG.nil (h31_ _ ?_)
          refine WC.ret ?_
          exact Ends.r1 rfl (.tmp _ (.v _) rfl) (.v _) (congrArg Bo (by rw [ans_not h21]; simp))
      ·
        have p8 := c8
        try simp only [CN] at p8
        refine WC.skip (h24_ _ ?_)
        refine WC.seq fun Fh32_ h32_ => ?_
        refine WC.region ?_
        refine RG.op _ _ rfl rfl (o_move (.ptr _ _ _) rfl) ?_
        refine RG.op _ _ rfl rfl (o_fld_ptr rfl Try.underlying42 rfl (sz_of Ty.inf23) (by decide)) ?_
        refine RG.op _ _ rfl rfl (o_load_ptr_L (xs := [_, _, _]) rfl Try.underlying23 rfl (sz_of Ty.inf23) rfl rfl rfl rfl) ?_
        refine RG.op _ _ rfl rfl (o_fld_ptr rfl Try.underlying42 rfl (sz_of Ty.inf23) (by decide)) ?_
        refine RG.op _ _ rfl rfl (o_load_ptr_L (xs := [_, _, _]) rfl Try.underlying23 rfl (sz_of Ty.inf23) rfl rfl rfl rfl) ?_
        first | refine RG.op _ _ rfl rfl (OpX.d (x_call Ty.cal7 (FunM.frame (ds := [_, _, _]) [2] [_] [_] [] (feed_s op (foldF op l) v z0 hc hR.1 hn1 ⟨hv.1, hv.2.1⟩) (by decide) ⟨rfl, trivial⟩ ⟨.pure (by repeat (first | exact pu_pvs _ | exact pu_bytes _ | exact pu_nil | exact pu_vs rfl | exact pu_map (fun _ => .v _) _ | exact pu_vals _ | refine pu_app ?_ ?_ | refine pu_cons (by exact pu_of rfl) ?_)), trivial⟩ ⟨.ptr _ _ _ rfl, .pure _ (by exact pu_of rfl), .pure _ (by exact pu_of rfl), trivial⟩ rfl ⟨.pure (by repeat (first | exact pu_pvs _ | exact pu_bytes _ | exact pu_nil | exact pu_vs rfl | exact pu_map (fun _ => .v _) _ | exact pu_vals _ | refine pu_app ?_ ?_ | refine pu_cons (by exact pu_of rfl) ?_)), trivial⟩ (.pure _ (by exact pu_of rfl)) rfl) ⟨.inl rfl, .inl rfl, .inl rfl, trivial⟩) (VLe.le (by repeat (first | exact trivial | refine And.intro (Nat.le_refl _) ?_ | refine And.intro trivial ?_ | refine And.intro (by show _ ≤ _; (first | omega | (simp only [LS, len_pvs] <;> omega))) ?_)))) ?_ | refine RG.op _ _ rfl rfl (OpX.d (x_call Ty.cal7 (FunM.frame (ds := [_, _, _]) [2] [_] [_] [] (feed_s op (foldF op l) z0 v hc hR.1 hn1 ⟨by decide, by decide⟩) (by decide) ⟨rfl, trivial⟩ ⟨.pure (by repeat (first | exact pu_pvs _ | exact pu_bytes _ | exact pu_nil | exact pu_vs rfl | exact pu_map (fun _ => .v _) _ | exact pu_vals _ | refine pu_app ?_ ?_ | refine pu_cons (by exact pu_of rfl) ?_)), trivial⟩ ⟨.ptr _ _ _ rfl, .pure _ (by exact pu_of rfl), .pure _ (by exact pu_of rfl), trivial⟩ rfl ⟨.pure (by repeat (first | exact pu_pvs _ | exact pu_bytes _ | exact pu_nil | exact pu_vs rfl | exact pu_map (fun _ => .v _) _ | exact pu_vals _ | refine pu_app ?_ ?_ | refine pu_cons (by exact pu_of rfl) ?_)), trivial⟩ (.pure _ (by exact pu_of rfl)) rfl) ⟨.inl rfl, .inl rfl, .inl rfl, trivial⟩) (VLe.le (by repeat (first | exact trivial | refine And.intro (Nat.le_refl _) ?_ | refine And.intro trivial ?_ | refine And.intro (by show _ ≤ _; (first | omega | (simp only [LS, len_pvs] <;> omega))) ?_)))) ?_ | refine RG.op _ _ rfl rfl (OpX.d (x_call Ty.cal7 (FunM.frame (ds := [_, _, _]) [2] [_] [_] [] (feed_s op (foldF op l) (l[(k % (l.length : Int)).toNat]'hJ).1 (l[(k % (l.length : Int)).toNat]'hJ).2 hc hR.1 hn1 (hi _ (List.getElem_mem hJ))) (by decide) ⟨rfl, trivial⟩ ⟨.pure (by repeat (first | exact pu_pvs _ | exact pu_bytes _ | exact pu_nil | exact pu_vs rfl | exact pu_map (fun _ => .v _) _ | exact pu_vals _ | refine pu_app ?_ ?_ | refine pu_cons (by exact pu_of rfl) ?_)), trivial⟩ ⟨.ptr _ _ _ rfl, .pure _ (by exact pu_of rfl), .pure _ (by exact pu_of rfl), trivial⟩ rfl ⟨.pure (by repeat (first | exact pu_pvs _ | exact pu_bytes _ | exact pu_nil | exact pu_vs rfl | exact pu_map (fun _ => .v _) _ | exact pu_vals _ | refine pu_app ?_ ?_ | refine pu_cons (by exact pu_of rfl) ?_)), trivial⟩ (.pure _ (by exact pu_of rfl)) rfl) ⟨.inl rfl, .inl rfl, .inl rfl, trivial⟩) (VLe.le (by repeat (first | exact trivial | refine And.intro (Nat.le_refl _) ?_ | refine And.intro trivial ?_ | refine And.intro (by show _ ≤ _; (first | omega | (simp only [LS, len_pvs] <;> omega))) ?_)))) ?_
        refine RG.nil (h32_ _ ?_)
        refine WC.seq fun Fh33_ h33_ => ?_
        first | refine WC.reH [some ⟨vc v, 23, false, 0⟩, wb op, sb op (s2 op (foldF op l)), some ⟨vc (ansM op (foldF op l)).1, 23, false, 0⟩, some ⟨vc v ++ vc z0, 42, false, 0⟩] (congrArg (fun q => [some ⟨vc v, 23, false, 0⟩, wb op, sb op q, some ⟨vc (ansM op (foldF op l)).1, 23, false, 0⟩, some ⟨vc v ++ vc z0, 42, false, 0⟩]) (nul_r7 h6)) ?_ | refine WC.reH [some ⟨vc v, 23, false, 0⟩, wb op, sb op (s2 op (foldF op l)), some ⟨vc (ansM op (foldF op l)).1, 23, false, 0⟩, some ⟨vc z0 ++ vc v, 42, false, 0⟩] (congrArg (fun q => [some ⟨vc v, 23, false, 0⟩, wb op, sb op q, some ⟨vc (ansM op (foldF op l)).1, 23, false, 0⟩, some ⟨vc z0 ++ vc v, 42, false, 0⟩]) (nul_r0 hc h6)) ?_ | refine WC.reH [some ⟨vc v, 23, false, 0⟩, wb op, sb op (s2 op (foldF op l)), some ⟨vc (ansM op (foldF op l)).1, 23, false, 0⟩, some ⟨pv (l[(k % (l.length : Int)).toNat]'hJ), 42, false, 0⟩] (congrArg (fun q => [some ⟨vc v, 23, false, 0⟩, wb op, sb op q, some ⟨vc (ansM op (foldF op l)).1, 23, false, 0⟩, some ⟨pv (l[(k % (l.length : Int)).toNat]'hJ), 42, false, 0⟩]) (nul_r9 h8.1.1 (List.getElem_mem hJ))) ?_
        refine WC.region ?_
        refine RG.op _ _ rfl rfl (o_move (.ptr _ _ _) rfl) ?_
        refine RG.op _ _ rfl rfl (OpX.d (x_call Ty.cal8 (ans_at op (s2 op (foldF op l)) hc hR2 2 rfl) ⟨.inl rfl, trivial⟩) (HLe.refl _)) ?_
        refine RG.op _ _ rfl rfl (o_move (.tup _) rfl) ?_
        refine RG.op _ _ rfl rfl (o_extract rfl rfl) ?_
        refine RG.op _ _ rfl rfl (o_extract rfl rfl) ?_
        refine RG.op _ _ rfl rfl (o_alloc (z_of Ty.inf23) rfl) ?_
        refine RG.op _ _ rfl rfl (o_store (d := (.agg [_, _, _])) rfl rfl rfl rfl (sz_of Ty.inf23) (Nat.le_of_ble_eq_true rfl) rfl) ?_
        refine RG.op _ _ rfl rfl (o_assign (.v _) rfl) ?_
        refine RG.nil (h33_ _ ?_)
        refine WC.seq fun Fh34_ h34_ => ?_
        refine WC.seq fun Fh35_ h35_ => ?_
        refine WC.region ?_
        refine RG.op _ _ rfl rfl (o_move (.v _) rfl) ?_
        refine RG.op _ _ rfl rfl (o_eqB (b := 21) rfl rfl) ?_
        refine RG.nil (h35_ _ ?_)
        refine WC.cond _ rfl (fun c12 => ?_) (fun c12 => ?_)
        ·
          have p12 := c12
          try simp only [CN] at p12
          have h21 : op = 21 := by simpa using c12
          have hb21 := add21 (s := foldF op l) h21 hn1
          refine WC.seq fun Fh36_ h36_ => ?_
          refine WC.region ?_
          refine RG.op _ _ rfl rfl (o_move (.v _) rfl) ?_
          refine RG.op _ _ rfl rfl (o_eqI rfl rfl) ?_
          refine RG.op _ _ rfl rfl (o_move (.v _) rfl) ?_
          refine RG.opg1 _ _ _ _ _ rfl rfl rfl rfl rfl (fun hb => o_move (.v _) rfl) ?_
          refine RG.opg1 _ _ _ _ _ rfl rfl rfl rfl rfl (fun hb => o_eqI (gdT hb) rfl) ?_
          refine RG.op _ _ rfl rfl (o_and _ _ rfl rfl rfl) ?_
          refine RG.op _ _ rfl rfl (o_move (.v _) rfl) ?_
          refine RG.opg1 _ _ _ _ _ rfl rfl rfl rfl rfl (fun hb => o_fld_ptr rfl Try.underlying23 rfl (sz_of Ty.inf2) (by decide)) ?_
          refine RG.opg1 _ _ _ _ _ rfl rfl rfl rfl rfl (fun hb => o_load_ptr (gdT hb) Try.underlying2 rfl rfl rfl rfl) ?_
          refine RG.opg1 _ _ _ _ _ rfl rfl rfl rfl rfl (fun hb => o_fld_ptr rfl Try.underlying23 rfl (sz_of Ty.inf2) (by decide)) ?_
          refine RG.opg1 _ _ _ _ _ rfl rfl rfl rfl rfl (fun hb => o_load_ptr (gdT hb) Try.underlying2 rfl rfl rfl rfl) ?_
          refine RG.opg1 _ _ _ _ _ rfl rfl rfl rfl rfl (fun hb => o_add (a := (ansM op (foldF op l)).1.i) (b := 1) (gdT hb) rfl hb21.1 hb21.2) ?_
          refine RG.opg1 _ _ _ _ _ rfl rfl rfl rfl rfl (fun hb => o_eqI (gdT hb) (gdT hb)) ?_
          refine RG.op _ _ rfl rfl (o_and _ _ rfl rfl rfl) ?_
          refine RG.op _ _ rfl rfl (o_move (.v _) rfl) ?_
          refine RG.opg1 _ _ _ _ _ rfl rfl rfl rfl rfl (fun hb => o_call Ty.cal12 (wakes_c) trivial (by exact pua rfl)) ?_
          refine RG.op _ _ rfl rfl (o_and _ _ rfl rfl rfl) ?_
          refine RG.op _ _ rfl rfl (o_assign (.v _) rfl) ?_
          refine RG.nil (h36_ _ ?_)
          refine WC.ret ?_
          exact Ends.r1 rfl (.tmp _ (.v _) rfl) (.v _) (congrArg Bo (fin21 h21))
        ·
          have p12 := c12
          try simp only [CN] at p12
          have h21 : op ≠ 21 := by simpa using c12
          refine WC.skip (h34_ _ ?_)
          refine WC.seq fun Fh37_ h37_ => ?_
          refine WC.region ?_
          refine RG.op _ _ rfl rfl (o_move (.v _) rfl) ?_
          refine RG.op _ _ rfl rfl (o_move (.v _) rfl) ?_
          refine RG.op _ _ rfl rfl (o_eqI rfl rfl) ?_
          refine RG.op _ _ rfl rfl (o_move (.v _) rfl) ?_
          refine RG.opg1 _ _ _ _ _ rfl rfl rfl rfl rfl (fun hb => o_load_ptr_L (xs := [_, _, _]) rfl Try.underlying23 rfl (sz_of Ty.inf23) rfl rfl rfl rfl) ?_
          refine RG.opg1 _ _ _ _ _ rfl rfl rfl rfl rfl (fun hb => o_load_ptr_L (xs := [_, _, _]) rfl Try.underlying23 rfl (sz_of Ty.inf23) rfl rfl rfl rfl) ?_
          refine RG.opg1 _ _ _ _ _ rfl rfl rfl rfl rfl (fun hb => o_eqV Ty.fs23 (gdT hb) (gdT hb)) ?_
          refine RG.op _ _ rfl rfl (o_and _ _ rfl rfl rfl) ?_
          refine RG.op _ _ rfl rfl (o_move (.v _) rfl) ?_
          refine RG.opg1 _ _ _ _ _ rfl rfl rfl rfl rfl (fun hb => o_call Ty.cal12 (wakes_c) trivial (by exact pua rfl)) ?_
          refine RG.op _ _ rfl rfl (o_and _ _ rfl rfl rfl) ?_
          refine RG.op _ _ rfl rfl (o_assign (.v _) rfl) ?_
          refine RG.nil (h37_ _ ?_)
          refine WC.ret ?_
          exact Ends.r1 rfl (.tmp _ (.v _) rfl) (.v _) (congrArg Bo (by rw [ans_not h21]; simp))
end Go.Proofs.Ytpacdeiaimfiaaa
