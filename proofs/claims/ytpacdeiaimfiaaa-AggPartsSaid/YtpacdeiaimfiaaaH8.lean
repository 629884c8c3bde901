/-
  Layer agg: the statements' own: a state that was fed, what is great. No condition but the pairs' number.
-/
import Derived.Test.YtpacdeiaimfiaaaH7
import Derived.Test.YtpacdeiaimfiaaaDlU
set_option linter.unusedSimpArgs false
set_option linter.unusedVariables false
namespace Go.Proofs.Ytpacdeiaimfiaaa
open Go.RowKit Go.DL
set_option maxRecDepth 8000

abbrev Pr := Val × Val
def pv (p : Pr) : List D := vc p.1 ++ vc p.2
theorem pv_len (p : Pr) : (pv p).length = 6 := rfl
abbrev rdQ (l : List Pr) : D := .rd l.length (l.flatMap pv)
theorem len_pvs (l : List Pr) : (l.flatMap pv).length = 6 * l.length := by
  induction l with
  | nil => rfl
  | cons p l ih => rw [List.flatMap_cons, List.length_append, ih, pv_len, List.length_cons]; omega
theorem pu_pvs (l : List Pr) : ∀ d ∈ l.flatMap pv, Pure' d := fun d hd => by
  obtain ⟨p, _, hp⟩ := List.mem_flatMap.1 hd
  simp [pv, vc] at hp
  rcases hp with rfl | rfl | rfl | rfl | rfl | rfl <;> exact .v _
theorem one_pvs (l : List Pr) : ∀ d ∈ l.flatMap pv, oneD d = true := fun d hd => by
  obtain ⟨p, _, hp⟩ := List.mem_flatMap.1 hd
  simp [pv, vc] at hp
  rcases hp with rfl | rfl | rfl | rfl | rfl | rfl <;> rfl
def foldF (op : UInt8) (l : List Pr) : St := l.foldl (fun s p => feedM op p.1 p.2 s) (st0 op)
theorem foldF_take {op : UInt8} {l : List Pr} {k : Nat} (h : k < l.length) : foldF op (l.take (k + 1)) = feedM op l[k].1 l[k].2 (foldF op (l.take k)) := by
  rw [List.take_succ_eq_append_getElem h]; unfold foldF; rw [List.foldl_append]; rfl
theorem pick_room {s : St} {d : Int} {a b : Val} (h : Room s) : Room (pickM d a b s) := by
  by_cases hc : pickC d a b s
  · rw [pick_yes hc]; exact h
  · rw [pick_no hc]; exact h
theorem pick_n (s : St) (d : Int) (a b : Val) : (pickM d a b s).n = s.n ∧ (pickM d a b s).z = s.z ∧ (pickM d a b s).op = s.op := by
  by_cases hc : pickC d a b s
  · rw [pick_yes hc]; exact ⟨rfl, rfl, rfl⟩
  · rw [pick_no hc]; exact ⟨rfl, rfl, rfl⟩
theorem feed_room {op : UInt8} {s : St} {a b : Val} (hr : Room s) (hn : s.n + 1 ≤ 1099511627776) (ha : inIv a) : Room (feedM op a b s) ∧ (feedM op a b s).n ≤ s.n + 1 ∧ (feedM op a b s).op = s.op := by
  have h0 := room1 (x := 0) hr hn (by omega)
  have h1 := room1 hr hn ha
  unfold feedM
  repeat' split
  all_goals first | exact ⟨h0, Nat.le_refl _, rfl⟩ | exact ⟨hr, Nat.le_succ _, rfl⟩ | exact ⟨h1, Nat.le_refl _, rfl⟩ | exact ⟨pick_room hr, by rw [(pick_n _ _ _ _).1]; exact Nat.le_succ _, (pick_n _ _ _ _).2.2⟩
theorem st0_room (op : UInt8) : Room (st0 op) := by unfold Room st0; simp
theorem fold_room (op : UInt8) : ∀ (l : List Pr) (s : St), Room s → s.n + l.length ≤ 1099511627776 → (∀ p ∈ l, inIv p.1) → Room (l.foldl (fun s p => feedM op p.1 p.2 s) s) ∧ (l.foldl (fun s p => feedM op p.1 p.2 s) s).n ≤ s.n + l.length ∧ (l.foldl (fun s p => feedM op p.1 p.2 s) s).op = s.op
  | [], s, hr, _, _ => ⟨hr, Nat.le_refl _, rfl⟩
  | p :: l, s, hr, hn, ha => by
    simp only [List.length_cons] at hn ⊢
    obtain ⟨h1, h2, h3⟩ := feed_room (op := op) (b := p.2) hr (by omega) (ha p (by simp))
    obtain ⟨q1, q2, q3⟩ := fold_room op l _ h1 (by omega) fun q hq => ha q (by simp [hq])
    exact ⟨q1, by rw [List.foldl_cons]; omega, by rw [List.foldl_cons, q3, h3]⟩
theorem foldF_room {op : UInt8} {l : List Pr} (hl : l.length ≤ 1099511627776) (ha : ∀ p ∈ l, inIv p.1) : Room (foldF op l) ∧ (foldF op l).n ≤ l.length ∧ (foldF op l).op = op := by
  have := fold_room op l (st0 op) (st0_room op) (by show 0 + l.length ≤ _; omega) ha
  exact ⟨this.1, by have := this.2.1; rw [show (st0 op).n = 0 from rfl, Nat.zero_add] at this; exact this, this.2.2⟩
set_option maxRecDepth 20000 in
set_option maxHeartbeats 4000000 in
theorem fed_c (op : UInt8) (l : List Pr) (hc : aggB op = true) (hl : l.length ≤ 1099511627776) (ha : ∀ p ∈ l, inIv p.1) : FunM Try.prog 15 [B8 op, rdQ l] [] (fun o H' => o = .ret (.ptr 1 0 0) ∧ H' = [wb op, sb op (foldF op l)]) := by
  refine FunM.of Try.func15 rfl (Nat.le_of_ble_eq_true rfl) fun C => ?_
  refine WC.seq fun Fh1_ h1_ => ?_
  refine WC.region ?_
  refine RG.op _ _ rfl rfl (o_assign (.v _) rfl) ?_
  refine RG.nil (h1_ _ ?_)
  refine WC.seq fun Fh2_ h2_ => ?_
  refine WC.region ?_
  refine RG.op _ _ rfl rfl (o_move (.v _) rfl) ?_
  refine RG.op _ _ rfl rfl (OpX.d (x_call Ty.cal9 (new_at op hc 1 rfl) ⟨.inl rfl, trivial⟩) (VLe.le (by repeat (first | exact trivial | refine And.intro (Nat.le_refl _) ?_ | refine And.intro trivial ?_ | refine And.intro (by show _ ≤ _; (first | omega | (simp only [LS, len_pvs] <;> omega))) ?_)))) ?_
  refine RG.op _ _ rfl rfl (o_move (.tup _) rfl) ?_
  refine RG.op _ _ rfl rfl (o_extract rfl rfl) ?_
  refine RG.op _ _ rfl rfl (o_extract rfl rfl) ?_
  refine RG.op _ _ rfl rfl (o_assign (.ptr _ _ _) rfl) ?_
  refine RG.op _ _ rfl rfl (o_assign (.v _) rfl) ?_
  refine RG.nil (h2_ _ ?_)
  refine WC.seq fun Fh3_ h3_ => ?_
  refine WC.seq fun Fh4_ h4_ => ?_
  refine WC.region ?_
  refine RG.op _ _ rfl rfl (o_assign (.v _) rfl) ?_
  refine RG.nil (h4_ _ ?_)
  refine WC.block ?_
  refine WC.loopU [7, 13, 14, 15, 16, 17, 18, 19, 20, 21, 22, 23, 24, 25, 26, 27, 28, 29, 30] (fun (k : Nat) => [(7, I64 ((k : Nat) : Int))]) (fun (k : Nat) => [(0, wb op), (1, sb op (foldF op (l.take k)))]) (fun (k : Nat) => k ≤ l.length) (fun (k : Nat) => l.length - k) 0 (by first | omega | exact ubyte _ | (simp only [LS, len_pvs] <;> omega)) ?lpa5_ ?lpb6_
  case lpa5_ =>
    exact .mk' ⟨⟨rfl, .v _⟩, trivial⟩ (same_refl _ _) (rfl) (by repeat (first | exact trivial | refine And.intro (Nat.le_refl _) ?_ | refine And.intro trivial ?_ | refine And.intro (by show _ ≤ _; (first | omega | (simp only [LS, len_pvs] <;> omega))) ?_)) (by repeat (first | exact trivial | refine And.intro (one_ok (.own _ _ _ _ _ (Nat.le_refl _))) ?_ | refine And.intro (okp (by repeat (first | exact pu_pvs _ | exact pu_bytes _ | exact pu_nil | exact pu_vs rfl | exact pu_map (fun _ => .v _) _ | exact pu_vals _ | refine pu_app ?_ ?_ | refine pu_cons (by exact pu_of rfl) ?_))) ?_))
  case lpb6_ =>
    rintro k hI
    refine WC.seq fun Fh7_ h7_ => ?_
    refine WC.seq fun Fh8_ h8_ => ?_
    refine WC.region ?_
    refine RG.op _ _ rfl rfl (o_move (.v _) rfl) ?_
    refine RG.op _ _ rfl rfl (o_move (.rd _ _) rfl) ?_
    refine RG.op _ _ rfl rfl (o_len_rd rfl Try.underlying35) ?_
    refine RG.op _ _ rfl rfl (o_ltI rfl rfl) ?_
    refine RG.nil (h8_ _ ?_)
    refine WC.cond _ rfl (fun c3 => ?_) (fun c3 => ?_)
    ·
      have p3 := c3
      try simp only [CN] at p3
      have hkl : k < l.length := by omega
      have hr1 := foldF_room (op := op) (l := l.take k) (by rw [List.length_take]; omega) (fun p hp => ha p (List.mem_of_mem_take hp))
      have hr2 := hr1.2.1
      rw [List.length_take] at hr2
      refine WC.skip (h7_ _ ?_)
      refine WC.seq fun Fh9_ h9_ => ?_
      refine WC.block ?_
      refine WC.drawn2 (by kernel_rfl) ?_
      refine PG.op _ rfl rfl rfl (fun _ _ => o_move (.ptr _ _ _) rfl) ?_
      refine PG.op _ rfl rfl rfl (fun _ _ => o_move (.rd _ _) rfl) ?_
      refine PG.op _ rfl rfl rfl (fun _ _ => o_move (.v _) rfl) ?_
      refine PG.op _ rfl rfl rfl (fun _ _ => o_ixn_L (l := l) (f := pv) k pv_len rfl rfl rfl Try.underlying35 (sz_of Ty.inf42) rfl hkl) ?_
      refine PG.op _ rfl rfl rfl (fun _ _ => o_fld_adr rfl Try.underlying42 rfl (sz_of Ty.inf23) (by decide)) ?_
      refine PG.op _ rfl rfl rfl (fun _ _ => o_load_adr_L (xs := [_, _, _]) rfl Try.underlying23 rfl (sz_of Ty.inf23) rfl) ?_
      refine PG.op _ rfl rfl rfl (fun _ _ => o_move (.rd _ _) rfl) ?_
      refine PG.op _ rfl rfl rfl (fun _ _ => o_move (.v _) rfl) ?_
      refine PG.op _ rfl rfl rfl (fun _ _ => o_ixn_L (l := l) (f := pv) k pv_len rfl rfl rfl Try.underlying35 (sz_of Ty.inf42) rfl hkl) ?_
      refine PG.op _ rfl rfl rfl (fun _ _ => o_fld_adr rfl Try.underlying42 rfl (sz_of Ty.inf23) (by decide)) ?_
      refine PG.op _ rfl rfl rfl (fun _ _ => o_load_adr_L (xs := [_, _, _]) rfl Try.underlying23 rfl (sz_of Ty.inf23) rfl) ?_
      refine PG.opm _ _ rfl rfl rfl (OpX.d (x_call Ty.cal7 (FunM.frame (ds := [_, _, _]) [1] [_] [_] [] (feed_s op (foldF op (l.take k)) (l[k]'hkl).1 (l[k]'hkl).2 hc hr1.1 (by omega) (ha _ (List.getElem_mem hkl))) (by decide) ⟨rfl, trivial⟩ ⟨.pure (by repeat (first | exact pu_pvs _ | exact pu_bytes _ | exact pu_nil | exact pu_vs rfl | exact pu_map (fun _ => .v _) _ | exact pu_vals _ | refine pu_app ?_ ?_ | refine pu_cons (by exact pu_of rfl) ?_)), trivial⟩ ⟨.ptr _ _ _ rfl, .pure _ (by exact pu_of rfl), .pure _ (by exact pu_of rfl), trivial⟩ rfl ⟨.pure (by repeat (first | exact pu_pvs _ | exact pu_bytes _ | exact pu_nil | exact pu_vs rfl | exact pu_map (fun _ => .v _) _ | exact pu_vals _ | refine pu_app ?_ ?_ | refine pu_cons (by exact pu_of rfl) ?_)), trivial⟩ (.pure _ (by exact pu_of rfl)) rfl) ⟨.inl rfl, .inl rfl, .inl rfl, trivial⟩) (VLe.le (by repeat (first | exact trivial | refine And.intro (Nat.le_refl _) ?_ | refine And.intro trivial ?_ | refine And.intro (by show _ ≤ _; (first | omega | (simp only [LS, len_pvs] <;> omega))) ?_)))) ?_
      refine PG.nil ⟨by kernel_rfl, trivial, (h9_ _ ?_)⟩
      refine WC.region ?_
      refine RG.op _ _ rfl rfl (o_move (.v _) rfl) ?_
      refine RG.op _ _ rfl rfl (o_add rfl rfl (by first | omega | exact ubyte _ | (simp only [LS, len_pvs] <;> omega)) (by first | omega | exact ubyte _ | (simp only [LS, len_pvs] <;> omega))) ?_
      refine RG.op _ _ rfl rfl (o_assign (.v _) rfl) ?_
      refine RG.nil (Exists.intro (k + 1) ⟨by first | omega | (simp only [LS, len_pvs] <;> omega), by first | omega | (simp only [LS, len_pvs] <;> omega), ?_⟩)
      exact .mk' ⟨⟨rfl, .v _⟩, trivial⟩ (by repeat (first | with_reducible exact same_refl _ _ | with_reducible refine same_updO (by with_unfolding_all exact rfl) ?_ | with_reducible refine same_updN ?_ | with_reducible refine same_updL (by with_unfolding_all exact rfl) ?_ | with_reducible refine same_forget (by with_unfolding_all exact rfl) ?_)) (congrArg (fun s => [wb op, sb op s]) (foldF_take hkl).symm) (by repeat (first | exact trivial | refine And.intro (Nat.le_refl _) ?_ | refine And.intro trivial ?_ | refine And.intro (by show _ ≤ _; (first | omega | (simp only [LS, len_pvs] <;> omega))) ?_)) (by repeat (first | exact trivial | refine And.intro (one_ok (.own _ _ _ _ _ (Nat.le_refl _))) ?_ | refine And.intro (okp (by repeat (first | exact pu_pvs _ | exact pu_bytes _ | exact pu_nil | exact pu_vs rfl | exact pu_map (fun _ => .v _) _ | exact pu_vals _ | refine pu_app ?_ ?_ | refine pu_cons (by exact pu_of rfl) ?_))) ?_))
    ·
      have p3 := c3
      try simp only [CN] at p3
      refine WC.exit (h3_ _ ?_)
      refine WC.seq fun Fh10_ h10_ => ?_
      have hke : k = l.length := by omega
      subst hke
      refine WC.region ?_
      refine RG.op _ _ rfl rfl (o_move (.ptr _ _ _) rfl) ?_
      refine RG.op _ _ rfl rfl (o_assign (.ptr _ _ _) rfl) ?_
      refine RG.nil (h10_ _ ?_)
      refine WC.ret ?_
      first | refine endM.mk (H0 := []) 2 [_, _] rfl rfl (by repeat (first | exact trivial | refine And.intro (one_ok (.own _ _ _ _ _ (Nat.le_refl _))) ?_ | refine And.intro (okp (by repeat (first | exact pu_pvs _ | exact pu_bytes _ | exact pu_nil | exact pu_vs rfl | exact pu_map (fun _ => .v _) _ | exact pu_vals _ | refine pu_app ?_ ?_ | refine pu_cons (by exact pu_of rfl) ?_))) ?_)) ?_ | (simp only [thenQ, blkQ, noGo]; refine endM.mk (H0 := []) 2 [_, _] rfl rfl (by repeat (first | exact trivial | refine And.intro (one_ok (.own _ _ _ _ _ (Nat.le_refl _))) ?_ | refine And.intro (okp (by repeat (first | exact pu_pvs _ | exact pu_bytes _ | exact pu_nil | exact pu_vs rfl | exact pu_map (fun _ => .v _) _ | exact pu_vals _ | refine pu_app ?_ ?_ | refine pu_cons (by exact pu_of rfl) ?_))) ?_)) ?_) | refine endM.mk 2 [_, _] rfl rfl (by repeat (first | exact trivial | refine And.intro (one_ok (.own _ _ _ _ _ (Nat.le_refl _))) ?_ | refine And.intro (okp (by repeat (first | exact pu_pvs _ | exact pu_bytes _ | exact pu_nil | exact pu_vs rfl | exact pu_map (fun _ => .v _) _ | exact pu_vals _ | refine pu_app ?_ ?_ | refine pu_cons (by exact pu_of rfl) ?_))) ?_)) ?_
      exact EndsM.r1 rfl (.tmp _ (.ptr _ _ _) rfl) (by first | exact .own _ _ _ _ _ (Nat.le_refl _) | exact .v _ | exact .ptr _ _ _ (Nat.le_refl _) | exact Pure'.ok (by exact pu_of rfl) _ | exact .tup _ (by repeat (first | exact ok_nil | refine ok_cons (by first | exact .own _ _ _ _ _ (Nat.le_refl _) | exact .ptr _ _ _ (Nat.le_refl _) | exact .v _ | exact Pure'.ok (by exact pu_of rfl) _) ?_))) (⟨rfl, by rw [List.take_length]⟩)
theorem fed_at (op : UInt8) (l : List Pr) (hc : aggB op = true) (hl : l.length ≤ 1099511627776) (ha : ∀ p ∈ l, inIv p.1) {H : Heap} (n : Nat) (hn : n = H.length + 1) : FunM Try.prog 15 [B8 op, rdQ l] H fun o H'' => o = .ret (.ptr n 0 0) ∧ H'' = H ++ [wb op, sb op (foldF op l)] :=
  new2 (fed_c op l hc hl ha) ⟨.v _, .rd _ _, trivial⟩ (pu_vs rfl) (pu_vs rfl) (ren2 hn)
theorem putI_same {H : Heap} {n : Nat} {b : Option Blk} (h : H[n]? = some b) : putI H [n] [b] ++ [] = H := by
  rw [List.append_nil]
  exact set_same h
theorem hle2 (H : Heap) (a b : Option Blk) : HLe H (H ++ [a, b]) := by
  have h := HLe.app (H ++ [a]) b
  rw [List.append_assoc] at h
  exact fun i v hv => h i v (HLe.app H a i v hv)
/-- A state that is asked. -/
theorem ans_at (op : UInt8) (s : St) (hc : aggB op = true) (hr : Room s) {H : Heap} (n : Nat) (hn : H[n]? = some (sb op s)) : FunM Try.prog 8 [.ptr n 0 0] H fun o H'' => o = .ret (AD (ansM op s)) ∧ H'' = H :=
  FunM.frame (ds := [.ptr n 0 0]) [n] [_] [_] [] (ans_s op s hc hr) (List.nodup_cons.2 ⟨by simp, List.nodup_nil⟩) ⟨hn, trivial⟩ ⟨.pure (pu_vs rfl), trivial⟩ ⟨.ptr _ _ _ rfl, trivial⟩ rfl ⟨.pure (pu_vs rfl), trivial⟩ (.pure _ (pu_of rfl)) (putI_same hn)
def greatM (l : List Pr) : Bool := decide (300 < l.length) || l.any fun p => decide (300 < p.1.t.length) || decide (300 < p.2.t.length)
theorem any_stop {α : Type} {p : α → Bool} {l : List α} {k : Nat} (h : k < l.length) (hk : p l[k] = true) : l.any p = true := List.any_eq_true.2 ⟨_, List.getElem_mem h, hk⟩
set_option maxHeartbeats 4000000 in
theorem great_c (l : List Pr) (hl : l.length ≤ 9223372036854775807) (ht : ∀ p ∈ l, p.1.t.length ≤ 9223372036854775807 ∧ p.2.t.length ≤ 9223372036854775807) : Fun Try.prog 13 [rdQ l] (· = Bo (greatM l)) := by
  refine Fun.of Try.func13 rfl (Nat.le_of_ble_eq_true rfl) fun C => ?_
  refine WC.seq fun Fh1_ h1_ => ?_
  refine WC.region ?_
  refine RG.op _ _ rfl rfl (o_assign (.v _) rfl) ?_
  refine RG.nil (h1_ _ ?_)
  refine WC.seq fun Fh2_ h2_ => ?_
  refine WC.seq fun Fh3_ h3_ => ?_
  refine WC.region ?_
  refine RG.op _ _ rfl rfl (o_move (.rd _ _) rfl) ?_
  refine RG.op _ _ rfl rfl (o_len_rd rfl Try.underlying35) ?_
  refine RG.op _ _ rfl rfl (o_gtI rfl rfl) ?_
  refine RG.nil (h3_ _ ?_)
  refine WC.cond _ rfl (fun c1 => ?_) (fun c1 => ?_)
  ·
    have p1 := c1
    try simp only [CN] at p1
    refine WC.seq fun Fh4_ h4_ => ?_
    refine WC.region ?_
    refine RG.op _ _ rfl rfl (o_assign (.v _) rfl) ?_
    refine RG.nil (h4_ _ ?_)
    refine WC.ret ?_
    exact Ends.r1 rfl (.tmp _ (.v _) rfl) (.v _) (congrArg Bo (by unfold greatM; rw [decide_eq_true (by omega)]; rfl))
  ·
    have p1 := c1
    try simp only [CN] at p1
    refine WC.skip (h2_ _ ?_)
    refine WC.seq fun Fh5_ h5_ => ?_
    refine WC.seq fun Fh6_ h6_ => ?_
    refine WC.region ?_
    refine RG.op _ _ rfl rfl (o_assign (.v _) rfl) ?_
    refine RG.nil (h6_ _ ?_)
    refine WC.block ?_
    refine WC.loopU [2, 3, 7, 8, 9, 10, 11, 12, 13, 14, 15, 16, 17, 18, 19, 20, 21, 22, 23, 24, 25, 26, 27, 28, 29, 30] (fun (k : Nat) => [(3, I64 ((k : Nat) : Int))]) (fun (k : Nat) => []) (fun (k : Nat) => k ≤ l.length ∧ (l.take k).any (fun p => decide (300 < p.1.t.length) || decide (300 < p.2.t.length)) = false) (fun (k : Nat) => l.length - k) 0 ⟨Nat.zero_le _, rfl⟩ ?lpa7_ ?lpb8_
    case lpa7_ =>
      exact .mk' ⟨⟨rfl, .v _⟩, trivial⟩ (same_refl _ _) (rfl) (by repeat (first | exact trivial | refine And.intro (Nat.le_refl _) ?_ | refine And.intro trivial ?_ | refine And.intro (by show _ ≤ _; (first | omega | (simp only [LS, len_pvs] <;> omega))) ?_)) (by repeat (first | exact trivial | refine And.intro (one_ok (.own _ _ _ _ _ (Nat.le_refl _))) ?_ | refine And.intro (okp (by repeat (first | exact pu_pvs _ | exact pu_bytes _ | exact pu_nil | exact pu_vs rfl | exact pu_map (fun _ => .v _) _ | exact pu_vals _ | refine pu_app ?_ ?_ | refine pu_cons (by exact pu_of rfl) ?_))) ?_))
    case lpb8_ =>
      rintro k hI
      have hk1 := hI.1
      have hk2 := hI.2
      refine WC.seq fun Fh9_ h9_ => ?_
      refine WC.seq fun Fh10_ h10_ => ?_
      refine WC.region ?_
      refine RG.op _ _ rfl rfl (o_move (.v _) rfl) ?_
      refine RG.op _ _ rfl rfl (o_move (.rd _ _) rfl) ?_
      refine RG.op _ _ rfl rfl (o_len_rd rfl Try.underlying35) ?_
      refine RG.op _ _ rfl rfl (o_ltI rfl rfl) ?_
      refine RG.nil (h10_ _ ?_)
      refine WC.cond _ rfl (fun c4 => ?_) (fun c4 => ?_)
      ·
        have p4 := c4
        try simp only [CN] at p4
        have hkl : k < l.length := by omega
        refine WC.skip (h9_ _ ?_)
        refine WC.seq fun Fh11_ h11_ => ?_
        refine WC.block ?_
        refine WC.seq fun Fh12_ h12_ => ?_
        refine WC.region ?_
        refine RG.op _ _ rfl rfl (o_move (.rd _ _) rfl) ?_
        refine RG.op _ _ rfl rfl (o_move (.v _) rfl) ?_
        refine RG.op _ _ rfl rfl (o_ixn_L (l := l) (f := pv) k pv_len rfl rfl rfl Try.underlying35 (sz_of Ty.inf42) rfl hkl) ?_
        refine RG.op _ _ rfl rfl (o_fld_adr rfl Try.underlying42 rfl (sz_of Ty.inf23) (by decide)) ?_
        refine RG.op _ _ rfl rfl (o_fld_adr rfl Try.underlying23 rfl (sz_of Ty.inf9) (by decide)) ?_
        refine RG.op _ _ rfl rfl (o_load_adr rfl Try.underlying9 rfl rfl) ?_
        refine RG.op _ _ rfl rfl (o_lenS rfl Try.underlying9) ?_
        refine RG.op _ _ rfl rfl (o_gtI rfl rfl) ?_
        refine RG.op _ _ rfl rfl (o_move (.v _) rfl) ?_
        refine RG.opg1 _ _ _ _ _ rfl rfl rfl rfl rfl (fun hb => o_move (.rd _ _) rfl) ?_
        refine RG.opg1 _ _ _ _ _ rfl rfl rfl rfl rfl (fun hb => o_move (.v _) rfl) ?_
        refine RG.opg1 _ _ _ _ _ rfl rfl rfl rfl rfl (fun hb => o_ixn_LZ (z0, z0) (l := l) (f := pv) k pv_len rfl (gdT hb) (gdT hb) Try.underlying35 (sz_of Ty.inf42) rfl hkl) ?_
        refine RG.opg1 _ _ _ _ _ rfl rfl rfl rfl rfl (fun hb => o_fld_adr (gdT hb) Try.underlying42 rfl (sz_of Ty.inf23) (by decide)) ?_
        refine RG.opg1 _ _ _ _ _ rfl rfl rfl rfl rfl (fun hb => o_fld_adr (gdT hb) Try.underlying23 rfl (sz_of Ty.inf9) (by decide)) ?_
        refine RG.opg1 _ _ _ _ _ rfl rfl rfl rfl rfl (fun hb => o_load_adr (gdT hb) Try.underlying9 rfl rfl) ?_
        refine RG.opg1 _ _ _ _ _ rfl rfl rfl rfl rfl (fun hb => o_lenS (gdT hb) Try.underlying9) ?_
        refine RG.opg1 _ _ _ _ _ rfl rfl rfl rfl rfl (fun hb => o_gtI (gdT hb) rfl) ?_
        refine RG.op _ _ rfl rfl (o_or _ _ rfl rfl rfl) ?_
        refine RG.nil (h12_ _ ?_)
        refine WC.cond _ rfl (fun c6 => ?_) (fun c6 => ?_)
        ·
          have p6 := c6
          try simp only [CN] at p6
          have hyes : (decide (300 < (l[k]'hkl).1.t.length) || decide (300 < (l[k]'hkl).2.t.length)) = true := by have a := c6; simp [List.getD, hkl] at a ⊢; omega
          refine WC.seq fun Fh13_ h13_ => ?_
          refine WC.region ?_
          refine RG.op _ _ rfl rfl (o_assign (.v _) rfl) ?_
          refine RG.nil (h13_ _ ?_)
          refine WC.ret ?_
          exact Ends.r1 rfl (.tmp _ (.v _) rfl) (.v _) (congrArg Bo (by unfold greatM; rw [any_stop hkl hyes, Bool.or_true]))
        ·
          have p6 := c6
          try simp only [CN] at p6
          have hno : (decide (300 < (l[k]'hkl).1.t.length) || decide (300 < (l[k]'hkl).2.t.length)) = false := by have a := c6; simp [List.getD, hkl] at a ⊢; omega
          refine WC.skip (h11_ _ ?_)
          refine WC.region ?_
          refine RG.op _ _ rfl rfl (o_move (.v _) rfl) ?_
          refine RG.op _ _ rfl rfl (o_add rfl rfl (by first | omega | exact ubyte _ | (simp only [LS, len_pvs] <;> omega)) (by first | omega | exact ubyte _ | (simp only [LS, len_pvs] <;> omega))) ?_
          refine RG.op _ _ rfl rfl (o_assign (.v _) rfl) ?_
          refine RG.nil (Exists.intro (k + 1) ⟨⟨by omega, by rw [List.take_succ_eq_append_getElem hkl, List.any_append, hk2]; simpa using hno⟩, by first | omega | (simp only [LS, len_pvs] <;> omega), ?_⟩)
          exact .mk' ⟨⟨rfl, .v _⟩, trivial⟩ (by repeat (first | with_reducible exact same_refl _ _ | with_reducible refine same_updO (by with_unfolding_all exact rfl) ?_ | with_reducible refine same_updN ?_ | with_reducible refine same_updL (by with_unfolding_all exact rfl) ?_ | with_reducible refine same_forget (by with_unfolding_all exact rfl) ?_)) (rfl) (by repeat (first | exact trivial | refine And.intro (Nat.le_refl _) ?_ | refine And.intro trivial ?_ | refine And.intro (by show _ ≤ _; (first | omega | (simp only [LS, len_pvs] <;> omega))) ?_)) (by repeat (first | exact trivial | refine And.intro (one_ok (.own _ _ _ _ _ (Nat.le_refl _))) ?_ | refine And.intro (okp (by repeat (first | exact pu_pvs _ | exact pu_bytes _ | exact pu_nil | exact pu_vs rfl | exact pu_map (fun _ => .v _) _ | exact pu_vals _ | refine pu_app ?_ ?_ | refine pu_cons (by exact pu_of rfl) ?_))) ?_))
      ·
        have p4 := c4
        try simp only [CN] at p4
        refine WC.exit (h5_ _ ?_)
        refine WC.seq fun Fh14_ h14_ => ?_
        refine WC.region ?_
        refine RG.op _ _ rfl rfl (o_assign (.v _) rfl) ?_
        refine RG.nil (h14_ _ ?_)
        refine WC.ret ?_
        exact Ends.r1 rfl (.tmp _ (.v _) rfl) (.v _) (congrArg Bo (by unfold greatM; rw [decide_eq_false (by omega)]; rw [List.take_of_length_le (by omega)] at hk2; rw [hk2]; rfl))
set_option maxHeartbeats 4000000 in
theorem numb_c (n : Int) : Fun Try.prog 16 [I64 n] (· = VD ⟨2, n, []⟩) := by
  refine Fun.of Try.func16 rfl (Nat.le_of_ble_eq_true rfl) fun C => ?_
  refine WC.seq fun Fh1_ h1_ => ?_
  refine WC.region ?_
  refine RG.op _ _ rfl rfl (o_alloc (z_of Ty.inf23) rfl) ?_
  refine RG.nil (h1_ _ ?_)
  refine WC.seq fun Fh2_ h2_ => ?_
  refine WC.region ?_
  refine RG.op _ _ rfl rfl (o_move (.v _) rfl) ?_
  refine RG.op _ _ rfl rfl (o_build (cs := [(B8 2), (.v _), S []]) Try.underlying23 Ty.inf23 (Ty.pl23 Try.underlying23) rfl) ?_
  refine RG.op _ _ rfl rfl (o_store (d := (.agg [_, _, _])) rfl rfl rfl rfl (sz_of Ty.inf23) (Nat.le_of_ble_eq_true rfl) rfl) ?_
  refine RG.nil (h2_ _ ?_)
  refine WC.ret ?_
  exact Ends.r1 rfl (.agg rfl Try.underlying23 rfl (sz_of Ty.inf23) rfl rfl rfl) (.pure' (by exact pu_of rfl)) (rfl)
def iV (n : Int) : Val := ⟨2, n, []⟩
def wl1 : List Pr := [(iV 3, iV 2), (z0, iV 1), (iV 4, z0)]
def wl2 : List Pr := [(iV (-3), z0), (iV (-4), z0)]
theorem wi1 : ∀ p ∈ wl1, inIv p.1 := by decide
theorem wi2 : ∀ p ∈ wl2, inIv p.1 := by decide
theorem wr1 : ansM 23 (foldF 23 wl1) = (iV 7, 0) := by decide
theorem wr2 : ansM 26 (foldF 26 wl2) = (iV (-4), 0) := by decide
theorem wr3 : ansM 28 (foldF 28 wl1) = (iV 3, 0) := by decide
set_option maxRecDepth 20000 in
set_option maxHeartbeats 4000000 in
theorem wakes_c : Fun Try.prog 12 [] (· = Bo true) := by
  refine Fun.of Try.func12 rfl (Nat.le_of_ble_eq_true rfl) fun C => ?_
  refine WC.seq fun Fh1_ h1_ => ?_
  refine WC.region ?_
  refine RG.op _ _ rfl rfl (o_assign (.v _) rfl) ?_
  refine RG.nil (h1_ _ ?_)
  refine WC.seq fun Fh2_ h2_ => ?_
  refine WC.region ?_
  refine RG.op _ _ rfl rfl (o_call Ty.cal16 (numb_c _) ⟨.inl rfl, trivial⟩ (by exact pua rfl)) ?_
  refine RG.op _ _ rfl rfl (o_call Ty.cal16 (numb_c _) ⟨.inl rfl, trivial⟩ (by exact pua rfl)) ?_
  refine RG.op _ _ rfl rfl (o_build (cs := [_, _, _, _, _, _]) Try.underlying42 Ty.inf42 (Ty.pl42 Try.underlying42) rfl) ?_
  refine RG.op _ _ rfl rfl (o_build (cs := [B8 0, I64 0, S []]) Try.underlying23 Ty.inf23 (Ty.pl23 Try.underlying23) rfl) ?_
  refine RG.op _ _ rfl rfl (o_call Ty.cal16 (numb_c _) ⟨.inl rfl, trivial⟩ (by exact pua rfl)) ?_
  refine RG.op _ _ rfl rfl (o_build (cs := [_, _, _, _, _, _]) Try.underlying42 Ty.inf42 (Ty.pl42 Try.underlying42) rfl) ?_
  refine RG.op _ _ rfl rfl (o_call Ty.cal16 (numb_c _) ⟨.inl rfl, trivial⟩ (by exact pua rfl)) ?_
  refine RG.op _ _ rfl rfl (o_build (cs := [B8 0, I64 0, S []]) Try.underlying23 Ty.inf23 (Ty.pl23 Try.underlying23) rfl) ?_
  refine RG.op _ _ rfl rfl (o_build (cs := [_, _, _, _, _, _]) Try.underlying42 Ty.inf42 (Ty.pl42 Try.underlying42) rfl) ?_
  refine RG.op _ _ rfl rfl (o_litP (cs := wl1.flatMap pv) Try.underlying35 Ty.inf42 rfl rfl rfl rfl (pu_pvs wl1)) ?_
  refine RG.op _ _ rfl rfl (o_assign (.rd _ _) rfl) ?_
  refine RG.nil (h2_ _ ?_)
  refine WC.seq fun Fh3_ h3_ => ?_
  refine WC.region ?_
  refine RG.op _ _ rfl rfl (o_move (.rd _ _) rfl) ?_
  refine RG.op _ _ rfl rfl (OpX.d (x_call Ty.cal15 (fed_at 23 wl1 rfl (by decide) wi1 1 rfl) ⟨.inl rfl, .inl rfl, trivial⟩) (VLe.le (by repeat (first | exact trivial | refine And.intro (Nat.le_refl _) ?_ | refine And.intro trivial ?_ | refine And.intro (by show _ ≤ _; (first | omega | (simp only [LS, len_pvs] <;> omega))) ?_)))) ?_
  refine RG.op _ _ rfl rfl (OpX.d (x_call Ty.cal8 (FunM.frame (ds := [.ptr 1 0 0]) [1] [_] [_] [] (ans_s 23 (foldF 23 wl1) rfl (foldF_room (by decide) wi1).1) (by decide) ⟨rfl, trivial⟩ ⟨.pure (by repeat (first | exact pu_pvs _ | exact pu_bytes _ | exact pu_nil | exact pu_vs rfl | exact pu_map (fun _ => .v _) _ | exact pu_vals _ | refine pu_app ?_ ?_ | refine pu_cons (by exact pu_of rfl) ?_)), trivial⟩ ⟨.ptr _ _ _ rfl, trivial⟩ rfl ⟨.pure (by repeat (first | exact pu_pvs _ | exact pu_bytes _ | exact pu_nil | exact pu_vs rfl | exact pu_map (fun _ => .v _) _ | exact pu_vals _ | refine pu_app ?_ ?_ | refine pu_cons (by exact pu_of rfl) ?_)), trivial⟩ (.pure _ (by exact pu_of rfl)) rfl) ⟨.inl rfl, trivial⟩) (VLe.le (by repeat (first | exact trivial | refine And.intro (Nat.le_refl _) ?_ | refine And.intro trivial ?_ | refine And.intro (by show _ ≤ _; (first | omega | (simp only [LS, len_pvs] <;> omega))) ?_)))) ?_
  refine RG.op _ _ rfl rfl (o_move (.tup _) rfl) ?_
  refine RG.op _ _ rfl rfl (o_extract rfl rfl) ?_
  refine RG.op _ _ rfl rfl (o_extract rfl rfl) ?_
  refine RG.op _ _ rfl rfl (o_alloc (z_of Ty.inf23) rfl) ?_
  refine RG.op _ _ rfl rfl (o_store (d := (.agg [_, _, _])) rfl rfl rfl rfl (sz_of Ty.inf23) (Nat.le_of_ble_eq_true rfl) rfl) ?_
  refine RG.op _ _ rfl rfl (o_assign (.v _) rfl) ?_
  refine RG.nil (h3_ _ ?_)
  refine WC.seq fun Fh4_ h4_ => ?_
  refine WC.region ?_
  refine RG.op _ _ rfl rfl (o_call Ty.cal16 (numb_c _) ⟨.inl rfl, trivial⟩ (by exact pua rfl)) ?_
  refine RG.op _ _ rfl rfl (o_build (cs := [_, _, _, B8 0, I64 0, S []]) Try.underlying42 Ty.inf42 (Ty.pl42 Try.underlying42) rfl) ?_
  refine RG.op _ _ rfl rfl (o_call Ty.cal16 (numb_c _) ⟨.inl rfl, trivial⟩ (by exact pua rfl)) ?_
  refine RG.op _ _ rfl rfl (o_build (cs := [_, _, _, B8 0, I64 0, S []]) Try.underlying42 Ty.inf42 (Ty.pl42 Try.underlying42) rfl) ?_
  refine RG.op _ _ rfl rfl (o_litP (cs := wl2.flatMap pv) Try.underlying35 Ty.inf42 rfl rfl rfl rfl (pu_pvs wl2)) ?_
  refine RG.op _ _ rfl rfl (OpX.d (x_call Ty.cal15 (fed_at 26 wl2 rfl (by decide) wi2 4 rfl) ⟨.inl rfl, .inl rfl, trivial⟩) (VLe.le (by repeat (first | exact trivial | refine And.intro (Nat.le_refl _) ?_ | refine And.intro trivial ?_ | refine And.intro (by show _ ≤ _; (first | omega | (simp only [LS, len_pvs] <;> omega))) ?_)))) ?_
  refine RG.op _ _ rfl rfl (OpX.d (x_call Ty.cal8 (FunM.frame (ds := [.ptr 4 0 0]) [4] [_] [_] [] (ans_s 26 (foldF 26 wl2) rfl (foldF_room (by decide) wi2).1) (by decide) ⟨rfl, trivial⟩ ⟨.pure (by repeat (first | exact pu_pvs _ | exact pu_bytes _ | exact pu_nil | exact pu_vs rfl | exact pu_map (fun _ => .v _) _ | exact pu_vals _ | refine pu_app ?_ ?_ | refine pu_cons (by exact pu_of rfl) ?_)), trivial⟩ ⟨.ptr _ _ _ rfl, trivial⟩ rfl ⟨.pure (by repeat (first | exact pu_pvs _ | exact pu_bytes _ | exact pu_nil | exact pu_vs rfl | exact pu_map (fun _ => .v _) _ | exact pu_vals _ | refine pu_app ?_ ?_ | refine pu_cons (by exact pu_of rfl) ?_)), trivial⟩ (.pure _ (by exact pu_of rfl)) rfl) ⟨.inl rfl, trivial⟩) (VLe.le (by repeat (first | exact trivial | refine And.intro (Nat.le_refl _) ?_ | refine And.intro trivial ?_ | refine And.intro (by show _ ≤ _; (first | omega | (simp only [LS, len_pvs] <;> omega))) ?_)))) ?_
  refine RG.op _ _ rfl rfl (o_move (.tup _) rfl) ?_
  refine RG.op _ _ rfl rfl (o_extract rfl rfl) ?_
  refine RG.op _ _ rfl rfl (o_extract rfl rfl) ?_
  refine RG.op _ _ rfl rfl (o_alloc (z_of Ty.inf23) rfl) ?_
  refine RG.op _ _ rfl rfl (o_store (d := (.agg [_, _, _])) rfl rfl rfl rfl (sz_of Ty.inf23) (Nat.le_of_ble_eq_true rfl) rfl) ?_
  refine RG.op _ _ rfl rfl (o_assign (.v _) rfl) ?_
  refine RG.nil (h4_ _ ?_)
  refine WC.seq fun Fh5_ h5_ => ?_
  refine WC.region ?_
  refine RG.op _ _ rfl rfl (o_move (.rd _ _) rfl) ?_
  refine RG.op _ _ rfl rfl (OpX.d (x_call Ty.cal15 (fed_at 28 wl1 rfl (by decide) wi1 7 rfl) ⟨.inl rfl, .inl rfl, trivial⟩) (VLe.le (by repeat (first | exact trivial | refine And.intro (Nat.le_refl _) ?_ | refine And.intro trivial ?_ | refine And.intro (by show _ ≤ _; (first | omega | (simp only [LS, len_pvs] <;> omega))) ?_)))) ?_
  refine RG.op _ _ rfl rfl (OpX.d (x_call Ty.cal8 (FunM.frame (ds := [.ptr 7 0 0]) [7] [_] [_] [] (ans_s 28 (foldF 28 wl1) rfl (foldF_room (by decide) wi1).1) (by decide) ⟨rfl, trivial⟩ ⟨.pure (by repeat (first | exact pu_pvs _ | exact pu_bytes _ | exact pu_nil | exact pu_vs rfl | exact pu_map (fun _ => .v _) _ | exact pu_vals _ | refine pu_app ?_ ?_ | refine pu_cons (by exact pu_of rfl) ?_)), trivial⟩ ⟨.ptr _ _ _ rfl, trivial⟩ rfl ⟨.pure (by repeat (first | exact pu_pvs _ | exact pu_bytes _ | exact pu_nil | exact pu_vs rfl | exact pu_map (fun _ => .v _) _ | exact pu_vals _ | refine pu_app ?_ ?_ | refine pu_cons (by exact pu_of rfl) ?_)), trivial⟩ (.pure _ (by exact pu_of rfl)) rfl) ⟨.inl rfl, trivial⟩) (VLe.le (by repeat (first | exact trivial | refine And.intro (Nat.le_refl _) ?_ | refine And.intro trivial ?_ | refine And.intro (by show _ ≤ _; (first | omega | (simp only [LS, len_pvs] <;> omega))) ?_)))) ?_
  refine RG.op _ _ rfl rfl (o_move (.tup _) rfl) ?_
  refine RG.op _ _ rfl rfl (o_extract rfl rfl) ?_
  refine RG.op _ _ rfl rfl (o_extract rfl rfl) ?_
  refine RG.op _ _ rfl rfl (o_alloc (z_of Ty.inf23) rfl) ?_
  refine RG.op _ _ rfl rfl (o_store (d := (.agg [_, _, _])) rfl rfl rfl rfl (sz_of Ty.inf23) (Nat.le_of_ble_eq_true rfl) rfl) ?_
  refine RG.op _ _ rfl rfl (o_assign (.v _) rfl) ?_
  refine RG.nil (h5_ _ ?_)
  refine WC.seq fun Fh6_ h6_ => ?_
  refine WC.region ?_
  refine RG.op _ _ rfl rfl (o_call Ty.cal9 (newBad_c 1 rfl) ⟨.inl (rfl : _ = (B8 1)), trivial⟩ (by exact pua rfl)) ?_
  refine RG.op _ _ rfl rfl (o_move (.tup _) rfl) ?_
  refine RG.op _ _ rfl rfl (o_extract rfl rfl) ?_
  refine RG.op _ _ rfl rfl (o_extract rfl rfl) ?_
  refine RG.op _ _ rfl rfl (o_assign (.v _) rfl) ?_
  refine RG.op _ _ rfl rfl (o_assign (.v _) rfl) ?_
  refine RG.nil (h6_ _ ?_)
  refine WC.seq fun Fh7_ h7_ => ?_
  refine WC.drawn1 (by kernel_rfl) ?_
  refine PG.op _ rfl rfl rfl (by rintro _ rfl; exact o_load_ptr_L (xs := [_, _, _]) rfl Try.underlying23 rfl (sz_of Ty.inf23) rfl rfl rfl rfl) ?_
  refine PG.op _ rfl rfl rfl (by rintro _ rfl; exact o_call Ty.cal16 (numb_c _) ⟨.inl rfl, trivial⟩ (by exact pua rfl)) ?_
  refine PG.op _ rfl rfl rfl (by rintro _ rfl; exact o_eqV Ty.fs23 rfl rfl) ?_
  refine PG.op _ rfl rfl rfl (by rintro _ rfl; exact o_move (.v _) rfl) ?_
  refine PG.opg1 _ _ _ _ _ rfl rfl rfl rfl rfl rfl (fun hb => (by rintro _ rfl; exact o_move (.v _) rfl)) ?_
  refine PG.opg1 _ _ _ _ _ rfl rfl rfl rfl rfl rfl (fun hb => (by rintro _ rfl; exact o_eqI (gdT hb) rfl)) ?_
  refine PG.op _ rfl rfl rfl (by rintro _ rfl; exact o_and _ _ rfl rfl rfl) ?_
  refine PG.op _ rfl rfl rfl (by rintro _ rfl; exact o_move (.v _) rfl) ?_
  refine PG.opg1 _ _ _ _ _ rfl rfl rfl rfl rfl rfl (fun hb => (by rintro _ rfl; exact o_load_ptr_L (xs := [_, _, _]) rfl Try.underlying23 rfl (sz_of Ty.inf23) rfl rfl rfl rfl)) ?_
  refine PG.opg1 _ _ _ _ _ rfl rfl rfl rfl rfl rfl (fun hb => (by rintro _ rfl; exact o_call Ty.cal16 (numb_c _) ⟨.inl rfl, trivial⟩ (by exact pua rfl))) ?_
  refine PG.opg1 _ _ _ _ _ rfl rfl rfl rfl rfl rfl (fun hb => (by rintro _ rfl; exact o_eqV Ty.fs23 (gdT hb) (gdT hb))) ?_
  refine PG.op _ rfl rfl rfl (by rintro _ rfl; exact o_and _ _ rfl rfl rfl) ?_
  refine PG.op _ rfl rfl rfl (by rintro _ rfl; exact o_move (.v _) rfl) ?_
  refine PG.opg1 _ _ _ _ _ rfl rfl rfl rfl rfl rfl (fun hb => (by rintro _ rfl; exact o_move (.v _) rfl)) ?_
  refine PG.opg1 _ _ _ _ _ rfl rfl rfl rfl rfl rfl (fun hb => (by rintro _ rfl; exact o_eqI (gdT hb) rfl)) ?_
  refine PG.op _ rfl rfl rfl (by rintro _ rfl; exact o_and _ _ rfl rfl rfl) ?_
  refine PG.op _ rfl rfl rfl (by rintro _ rfl; exact o_move (.v _) rfl) ?_
  refine PG.opg1 _ _ _ _ _ rfl rfl rfl rfl rfl rfl (fun hb => (by rintro _ rfl; exact o_load_ptr_L (xs := [_, _, _]) rfl Try.underlying23 rfl (sz_of Ty.inf23) rfl rfl rfl rfl)) ?_
  refine PG.opg1 _ _ _ _ _ rfl rfl rfl rfl rfl rfl (fun hb => (by rintro _ rfl; exact o_call Ty.cal16 (numb_c _) ⟨.inl rfl, trivial⟩ (by exact pua rfl))) ?_
  refine PG.opg1 _ _ _ _ _ rfl rfl rfl rfl rfl rfl (fun hb => (by rintro _ rfl; exact o_eqV Ty.fs23 (gdT hb) (gdT hb))) ?_
  refine PG.op _ rfl rfl rfl (by rintro _ rfl; exact o_and _ _ rfl rfl rfl) ?_
  refine PG.op _ rfl rfl rfl (by rintro _ rfl; exact o_move (.v _) rfl) ?_
  refine PG.opg1 _ _ _ _ _ rfl rfl rfl rfl rfl rfl (fun hb => (by rintro _ rfl; exact o_move (.v _) rfl)) ?_
  refine PG.opg1 _ _ _ _ _ rfl rfl rfl rfl rfl rfl (fun hb => (by rintro _ rfl; exact o_eqI (gdT hb) rfl)) ?_
  refine PG.op _ rfl rfl rfl (by rintro _ rfl; exact o_and _ _ rfl rfl rfl) ?_
  refine PG.op _ rfl rfl rfl (by rintro _ rfl; exact o_move (.v _) rfl) ?_
  refine PG.opg1 _ _ _ _ _ rfl rfl rfl rfl rfl rfl (fun hb => (by rintro _ rfl; exact o_move (.v _) rfl)) ?_
  refine PG.opg1 _ _ _ _ _ rfl rfl rfl rfl rfl rfl (fun hb => (by rintro _ rfl; exact o_eqI (gdT hb) rfl)) ?_
  refine PG.op _ rfl rfl rfl (by rintro _ rfl; exact o_and _ _ rfl rfl rfl) ?_
  refine PG.op _ rfl rfl rfl (by rintro _ rfl; exact o_move (.v _) rfl) ?_
  refine PG.opg1 _ _ _ _ _ rfl rfl rfl rfl rfl rfl (fun hb => (by rintro _ rfl; exact o_call Ty.cal19 (args_c 27 rfl) ⟨.inl (rfl : _ = (B8 27)), trivial⟩ (by exact pua rfl))) ?_
  refine PG.opg1 _ _ _ _ _ rfl rfl rfl rfl rfl rfl (fun hb => (by rintro _ rfl; exact o_eqI (gdT hb) rfl)) ?_
  refine PG.op _ rfl rfl rfl (by rintro _ rfl; exact o_and _ _ rfl rfl rfl) ?_
  refine PG.op _ rfl rfl rfl (by rintro _ rfl; exact o_move (.v _) rfl) ?_
  refine PG.opg1 _ _ _ _ _ rfl rfl rfl rfl rfl rfl (fun hb => (by rintro _ rfl; exact o_call Ty.cal14 (is_c _) ⟨.inl (rfl : _ = (B8 24)), trivial⟩ (by exact pua rfl))) ?_
  refine PG.op _ rfl rfl rfl (by rintro _ rfl; exact o_and _ _ rfl rfl rfl) ?_
  refine PG.op _ rfl rfl rfl (by rintro _ rfl; exact o_assign (.v _) rfl) ?_
  refine PG.nil ⟨by kernel_rfl, rfl, (h7_ _ ?_)⟩
  refine WC.ret ?_
  exact Ends.r1 rfl (.tmp _ (.v _) rfl) (.v _) (congrArg Bo (by rw [wr1, wr2, wr3]; decide))
end Go.Proofs.Ytpacdeiaimfiaaa
