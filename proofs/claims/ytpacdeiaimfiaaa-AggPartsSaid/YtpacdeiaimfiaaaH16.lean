/-
  Layer agg: AggParts: parts make the whole. No condition.
-/
import Derived.Test.YtpacdeiaimfiaaaH15
import Derived.Test.YtpacdeiaimfiaaaDlU
set_option linter.unusedSimpArgs false
set_option linter.unusedVariables false
namespace Go.Proofs.Ytpacdeiaimfiaaa
open Go.RowKit Go.DL
set_option maxRecDepth 8000
open CMod
section
variable {P : Program} {C : Ctx} {env : Nat → D} {H : Heap} {dst : Option Nat} {ty t t' : TypeId} {pos : String} {after : Array Edge} {gu : Option (Nat × Bool)} {X Y : Operand}
theorem o_neg {a : Int} (hx : ev env X = I64 a) (h1 : -9223372036854775808 ≤ -a) (h2 : -a ≤ 9223372036854775807) : OpD P C ⟨dst, .unOp .neg t X, ty, pos, after, gu⟩ env H (I64 (-a)) H := by
  refine OpD.same fun K β ac w _ h _ => ⟨_, ?_, .v _ _, .v _⟩
  have h0 := h X (by simp [Op.operands])
  rw [hx] at h0
  have e : Op.intArith .sub .i64 0 a = .pure (.int .i64 (-a)) := by
    show Sem.pure (Value.int .i64 (IntKind.i64.wrap (0 - a))) = _
    rw [Int.zero_sub, w64 h1 h2]
  simp [execOp, h0.v_inv]
  simp [Op.unary, e]
theorem o_remT {a b : Int} (hx : ev env X = I64 a) (hy : ev env Y = I64 b) (h1 : b ≠ 0) : OpD P C ⟨dst, .binOp .rem t X Y t', ty, pos, after, gu⟩ env H (I64 (a.tmod b)) H :=
  o_bin (.int .i64 (a.tmod b)) hx hy (by show Op.intDiv .rem .i64 a b = _; unfold Op.intDiv; rw [if_neg h1]; rfl)
end
/-- How long the next part is. -/
def cutN (c : List Int) (l : List Pr) (p : List (List Pr)) : Nat := if p.length < c.length then ((c.getD p.length 0).tmod ((l.length : Int) - (p.flatten.length : Int) + 1)).natAbs else l.length - p.flatten.length
theorem tmod_abs (a : Int) {m : Int} (h : 0 < m) : ((a.tmod m).natAbs : Int) < m := by
  have h1 := Int.tmod_lt_of_pos a h
  have h2 := Int.lt_tmod_of_pos a h
  omega
theorem cutN_le {c : List Int} {l : List Pr} {p : List (List Pr)} (h : p.flatten.length ≤ l.length) : cutN c l p ≤ l.length - p.flatten.length := by
  unfold cutN; split
  · have := tmod_abs (c.getD p.length 0) (m := (l.length : Int) - (p.flatten.length : Int) + 1) (by omega)
    omega
  · exact Nat.le_refl _
/-- What is cut so far. -/
def Cut (c : List Int) (l : List Pr) (p : List (List Pr)) : Prop := p.flatten = l.take p.flatten.length ∧ p.flatten.length ≤ l.length ∧ p.length ≤ c.length + 1 ∧ (p.length = c.length + 1 → p.flatten.length = l.length)
def nextP (c : List Int) (l : List Pr) (p : List (List Pr)) : List Pr := (l.drop p.flatten.length).take (cutN c l p)
theorem nextP_len {c : List Int} {l : List Pr} {p : List (List Pr)} (h : p.flatten.length ≤ l.length) : (nextP c l p).length = cutN c l p := by
  have := cutN_le (c := c) h
  unfold nextP; rw [List.length_take, List.length_drop]; omega
theorem flat_snoc (p : List (List Pr)) (q : List Pr) : (p ++ [q]).flatten = p.flatten ++ q := by simp
theorem cut_next {c : List Int} {l : List Pr} {p : List (List Pr)} (h : Cut c l p) (hp : p.length ≤ c.length) : Cut c l (p ++ [nextP c l p]) := by
  obtain ⟨h1, h2, h3, h4⟩ := h
  have hn := nextP_len (c := c) h2
  have hc := cutN_le (c := c) h2
  refine ⟨?_, ?_, ?_, fun he => ?_⟩
  · rw [flat_snoc, List.length_append, hn, List.take_add, ← h1]; rfl
  · rw [flat_snoc, List.length_append, hn]; omega
  · rw [List.length_append]; simp; omega
  · rw [flat_snoc, List.length_append, hn]
    rw [List.length_append] at he
    have : ¬ p.length < c.length := by simp at he; omega
    unfold cutN; rw [if_neg this]; omega
theorem cut_pos {c : List Int} {l : List Pr} {p : List (List Pr)} (h : p.length < c.length) (k : decide ((c[p.length]).tmod ((l.length : Int) - (p.flatten.length : Int) + 1) < 0) = false) : (c[p.length]).tmod ((l.length : Int) - (p.flatten.length : Int) + 1) = (cutN c l p : Int) := by
  have k := of_decide_eq_false k
  unfold cutN
  rw [if_pos h, show c.getD p.length 0 = c[p.length] by simp [List.getD, h]]
  omega
theorem cut_neg {c : List Int} {l : List Pr} {p : List (List Pr)} (h : p.length < c.length) (k : decide ((c[p.length]).tmod ((l.length : Int) - (p.flatten.length : Int) + 1) < 0) = true) : -(c[p.length]).tmod ((l.length : Int) - (p.flatten.length : Int) + 1) = (cutN c l p : Int) := by
  have k := of_decide_eq_true k
  unfold cutN
  rw [if_pos h, show c.getD p.length 0 = c[p.length] by simp [List.getD, h]]
  omega
theorem fa_take {op : UInt8} {ps : List (List Pr)} {j : Nat} (h : j < ps.length) : FA op (ps.take (j + 1)) = addM op (foldF op ps[j]) (FA op (ps.take j)) := by
  rw [List.take_succ_eq_append_getElem h]; unfold FA; rw [List.foldl_append]; rfl
theorem flat_take_len (ps : List (List Pr)) (j : Nat) : (ps.take j).flatten.length ≤ ps.flatten.length := by
  have h : ps.flatten = (ps.take j).flatten ++ (ps.drop j).flatten := by rw [← List.flatten_append, List.take_append_drop]
  rw [h, List.length_append]; omega
theorem fa_room {op : UInt8} (hc : aggB op = true) {ps : List (List Pr)} {l : List Pr} (hm : ∀ q ∈ ps, ∀ x ∈ q, x ∈ l) (hlen : ps.flatten.length = l.length) (hl : l.length ≤ 300) (hi : ∀ p ∈ l, inIv p.1) (j : Nat) : Room (FA op (ps.take j)) ∧ (FA op (ps.take j)).n ≤ 300 ∧ (FA op (ps.take j)).op = op := by
  rw [(parts_all hc (ps.take j) []).1]
  have h1 := flat_take_len ps j
  have := foldF_room (op := op) (l := (ps.take j).flatten) (by omega) (fun p hp => by
    obtain ⟨q, hq, hpq⟩ := List.mem_flatten.1 hp
    exact hi _ (hm q (List.mem_of_mem_take hq) p hpq))
  exact ⟨this.1, by omega, this.2.2⟩
theorem part_room {op : UInt8} {ps : List (List Pr)} {l : List Pr} (hm : ∀ q ∈ ps, ∀ x ∈ q, x ∈ l) (hlen : ps.flatten.length = l.length) (hl : l.length ≤ 300) (hi : ∀ p ∈ l, inIv p.1) {q : List Pr} (hq : q ∈ ps) : Room (foldF op q) ∧ (foldF op q).n ≤ 300 ∧ (foldF op q).op = op := by
  have h1 : q.length ≤ ps.flatten.length := (List.sublist_flatten_of_mem hq).length_le
  have := foldF_room (op := op) (l := q) (by omega) (fun p hp => hi _ (hm q hq p hp))
  exact ⟨this.1, by omega, this.2.2⟩
theorem add_at (op : UInt8) (s o : St) (hc : aggB op = true) (hr : Room s ∧ s.n ≤ 300 ∧ s.op = op) (ho : Room o ∧ o.n ≤ 300 ∧ o.op = op) {H : Heap} (n : Nat) (hn : H[n]? = some (sb op s)) : FunM Try.prog 10 [.ptr n 0 0, .adr (stA op o)] H fun p H'' => p = .ret (I64 0) ∧ H'' = H.set n (sb op (addM op o s)) :=
  FunM.frame (ds := [.ptr n 0 0, .adr (stA op o)]) [n] [_] [sb op (addM op o s)] [] (add_s op op s o hc hr.1 ho.1 (by omega) (hr.2.2.trans ho.2.2.symm)) (List.nodup_cons.2 ⟨by simp, List.nodup_nil⟩) ⟨hn, trivial⟩ ⟨.pure (pu_vs rfl), trivial⟩ ⟨.ptr _ _ _ rfl, .pure _ (.adr _), trivial⟩ rfl ⟨.pure (pu_vs rfl), trivial⟩ (.pure _ (.v _)) (List.append_nil _)
theorem hle_set {H : Heap} {n : Nat} {op : UInt8} {s s' : St} (hn : H[n]? = some (sb op s)) : HLe H (H.set n (sb op s')) := by
  intro i v h
  unfold DL.okV at *
  by_cases e : n = i
  · subst e
    have hlt := (List.getElem?_eq_some_iff.1 hn).1
    rw [hn] at h
    rw [List.getElem?_set_self hlt]; exact h
  · rwa [List.getElem?_set_ne e]
theorem adr_pu (op : UInt8) (ps : List (List Pr)) : ∀ d ∈ ps.map (fun q => D.adr (stA op (foldF op q))), Pure' d := fun d hd => by
  obtain ⟨q, _, rfl⟩ := List.mem_map.1 hd
  exact .adr _
theorem adr_one (op : UInt8) (ps : List (List Pr)) : ∀ d ∈ ps.map (fun q => D.adr (stA op (foldF op q))), oneD d = true := fun d hd => by
  obtain ⟨q, _, rfl⟩ := List.mem_map.1 hd
  rfl
theorem heq46 {op : UInt8} {b0 b1 b2 b3 b5 b7 : Option Blk} {s s' t t' : St} (h1 : s = s') (h2 : t = t') : [b0, b1, b2, b3, sb op s, b5, sb op t, b7] = [b0, b1, b2, b3, sb op s', b5, sb op t', b7] := by rw [h1, h2]
theorem heq11 {op : UInt8} {b0 b1 b2 b3 b4 b5 b6 b7 b8 b9 b10 : Option Blk} {s s' : St} (h1 : s = s') : [b0, b1, b2, b3, b4, b5, b6, b7, b8, b9, b10, sb op s] = [b0, b1, b2, b3, b4, b5, b6, b7, b8, b9, b10, sb op s'] := by rw [h1]
theorem cut_all {c : List Int} {l : List Pr} {p : List (List Pr)} (h : Cut c l p) (hlen : p.flatten.length = l.length) : p.flatten = l := by
  have a := h.1
  rwa [hlen, List.take_length] at a
theorem cut_mem {l : List Pr} {p : List (List Pr)} (h : p.flatten = l) : ∀ q ∈ p, ∀ x ∈ q, x ∈ l := fun q hq x hx => h ▸ List.mem_flatten.2 ⟨q, hq, hx⟩
theorem rev_len {l : List Pr} {p : List (List Pr)} (h : p.flatten.length = l.length) : p.reverse.flatten.length = l.length := by
  rw [← h]
  clear h
  induction p with
  | nil => rfl
  | cons q p ih => rw [List.reverse_cons, List.flatten_append, List.length_append, ih, List.flatten_cons, List.length_append]; simp; omega
theorem rev_at {p : List (List Pr)} {j : Nat} (h : j < p.length) (h' : j < p.reverse.length) : p.getD (p.length - 1 - j) [] = p.reverse[j] := by
  rw [List.getElem_reverse, List.getD_eq_getElem?_getD, List.getElem?_eq_getElem (by omega)]; rfl
theorem back_take {op : UInt8} {l : List Pr} {i : Nat} (h : l.length - 1 - i < l.length) (h' : i < l.reverse.length) : feedM op l[l.length - 1 - i].1 l[l.length - 1 - i].2 (foldF op (l.reverse.take i)) = foldF op (l.reverse.take (i + 1)) := by
  rw [foldF_take h', List.getElem_reverse]
set_option maxRecDepth 20000 in
set_option maxHeartbeats 4000000 in
theorem parts_c (op : UInt8) (l : List Pr) (hl : (∀ p ∈ l, okV p.1 ∧ okV p.2) ∧ l.length ≤ 9223372036854775807) (c : List Int) (hcu : c.length ≤ 9223372036854775807) : Fun Try.prog 4 [B8 op, rdQ l, rdI c] (· = Bo true) := by
  obtain ⟨hi, ht⟩ := okP hl.1
  refine Fun.of Try.func4 rfl (Nat.le_of_ble_eq_true rfl) fun C => ?_
  refine WC.seq fun Fh1_ h1_ => ?_
  refine WC.region ?_
  refine RG.op _ _ rfl rfl (o_assign (.v _) rfl) ?_
  refine RG.nil (h1_ _ ?_)
  refine WC.seq fun Fh2_ h2_ => ?_
  refine WC.seq fun Fh3_ h3_ => ?_
  refine WC.region ?_
  refine RG.op _ _ rfl rfl (o_move (.rd _ _) rfl) ?_
  refine RG.op _ _ rfl rfl (o_call Ty.cal13 (great_c _ hl.2 ht) ⟨.inl rfl, trivial⟩ (by exact pua rfl)) ?_
  refine RG.op _ _ rfl rfl (o_move (.v _) rfl) ?_
  refine RG.opg1 _ _ _ _ _ rfl rfl rfl rfl rfl (fun hb => o_move (.rd _ _) rfl) ?_
  refine RG.opg1 _ _ _ _ _ rfl rfl rfl rfl rfl (fun hb => o_len_rd (gdT hb) Try.underlying36) ?_
  refine RG.opg1 _ _ _ _ _ rfl rfl rfl rfl rfl (fun hb => o_gtI (gdT hb) rfl) ?_
  refine RG.op _ _ rfl rfl (o_or _ _ rfl rfl rfl) ?_
  refine RG.op _ _ rfl rfl (o_move (.v _) rfl) ?_
  refine RG.opg1 _ _ _ _ _ rfl rfl rfl rfl rfl (fun hb => o_move (.v _) rfl) ?_
  refine RG.opg1 _ _ _ _ _ rfl rfl rfl rfl rfl (fun hb => o_call Ty.cal14 (is_c _) ⟨.inl (gdT hb), trivial⟩ (by exact pua rfl)) ?_
  refine RG.opg1 _ _ _ _ _ rfl rfl rfl rfl rfl (fun hb => o_not (gdT hb)) ?_
  refine RG.op _ _ rfl rfl (o_or _ _ rfl rfl rfl) ?_
  refine RG.nil (h3_ _ ?_)
  refine WC.cond _ rfl (fun c1 => ?_) (fun c1 => ?_)
  ·
    have p1 := c1
    try simp only [CN] at p1
    refine WC.seq fun Fh4_ h4_ => ?_
    refine WC.region ?_
    refine RG.op _ _ rfl rfl (o_call Ty.cal12 (wakes_c) trivial (by exact pua rfl)) ?_
    refine RG.op _ _ rfl rfl (o_assign (.v _) rfl) ?_
    refine RG.nil (h4_ _ ?_)
    refine WC.ret ?_
    exact Ends.r1 rfl (.tmp _ (.v _) rfl) (.v _) (rfl)
  ·
    have p1 := c1
    try simp only [CN] at p1
    have hc : aggB op = true := by have a := c1; cases h : aggB op with | true => rfl | false => rw [h] at a; simp at a
    have hg : l.length ≤ 300 := great_not (by have a := c1; cases h : greatM l with | false => rfl | true => rw [h] at a; simp at a)
    have hc60 : c.length ≤ 60 := by have a := c1; simp at a; omega
    have hl40 : l.length ≤ 1099511627776 := by omega
    have hR := foldF_room (op := op) hl40 hi
    refine WC.skip (h2_ _ ?_)
    refine WC.seq fun Fh5_ h5_ => ?_
    refine WC.region ?_
    refine RG.op _ _ rfl rfl (o_move (.v _) rfl) ?_
    refine RG.op _ _ rfl rfl (o_move (.rd _ _) rfl) ?_
    refine RG.op _ _ rfl rfl (OpX.d (x_call Ty.cal15 (fed_at op l hc hl40 hi 1 rfl) ⟨.inl rfl, .inl rfl, trivial⟩) (hle2 _ _ _)) ?_
    refine RG.op _ _ rfl rfl (OpX.d (x_call Ty.cal8 (ans_at op (foldF op l) hc hR.1 1 rfl) ⟨.inl rfl, trivial⟩) (HLe.refl _)) ?_
    refine RG.op _ _ rfl rfl (o_move (.tup _) rfl) ?_
    refine RG.op _ _ rfl rfl (o_extract rfl rfl) ?_
    refine RG.op _ _ rfl rfl (o_extract rfl rfl) ?_
    refine RG.op _ _ rfl rfl (o_alloc (z_of Ty.inf23) rfl) ?_
    refine RG.op _ _ rfl rfl (o_store (d := (.agg [_, _, _])) rfl rfl rfl rfl (sz_of Ty.inf23) (Nat.le_of_ble_eq_true rfl) rfl) ?_
    refine RG.op _ _ rfl rfl (o_assign (.v _) rfl) ?_
    refine RG.nil (h5_ _ ?_)
    refine WC.seq fun Fh6_ h6_ => ?_
    refine WC.reH [wb op, sb op (foldF op l), some ⟨vc (ansM op (foldF op l)).1, 23, false, 0⟩] rfl ?_
    refine WC.region ?_
    refine RG.op _ _ rfl rfl (o_move (.v _) rfl) ?_
    refine RG.op _ _ rfl rfl (OpX.d (x_call Ty.cal9 (new_at op hc 4 rfl) ⟨.inl rfl, trivial⟩) (hle2 _ _ _)) ?_
    refine RG.op _ _ rfl rfl (o_move (.tup _) rfl) ?_
    refine RG.op _ _ rfl rfl (o_extract rfl rfl) ?_
    refine RG.op _ _ rfl rfl (o_extract rfl rfl) ?_
    refine RG.op _ _ rfl rfl (o_assign (.ptr _ _ _) rfl) ?_
    refine RG.op _ _ rfl rfl (o_assign (.v _) rfl) ?_
    refine RG.nil (h6_ _ ?_)
    refine WC.seq fun Fh7_ h7_ => ?_
    refine WC.reH [wb op, sb op (foldF op l), some ⟨vc (ansM op (foldF op l)).1, 23, false, 0⟩, wb op, sb op (st0 op)] rfl ?_
    refine WC.region ?_
    refine RG.op _ _ rfl rfl (o_move (.v _) rfl) ?_
    refine RG.op _ _ rfl rfl (OpX.d (x_call Ty.cal9 (new_at op hc 6 rfl) ⟨.inl rfl, trivial⟩) (hle2 _ _ _)) ?_
    refine RG.op _ _ rfl rfl (o_move (.tup _) rfl) ?_
    refine RG.op _ _ rfl rfl (o_extract rfl rfl) ?_
    refine RG.op _ _ rfl rfl (o_extract rfl rfl) ?_
    refine RG.op _ _ rfl rfl (o_assign (.ptr _ _ _) rfl) ?_
    refine RG.op _ _ rfl rfl (o_assign (.v _) rfl) ?_
    refine RG.nil (h7_ _ ?_)
    refine WC.seq fun Fh8_ h8_ => ?_
    refine WC.seq fun Fh9_ h9_ => ?_
    refine WC.reH [wb op, sb op (foldF op l), some ⟨vc (ansM op (foldF op l)).1, 23, false, 0⟩, wb op, sb op (st0 op), wb op, sb op (st0 op)] rfl ?_
    refine WC.region ?_
    refine RG.op _ _ rfl rfl (o_move (.v _) rfl) ?_
    refine RG.op _ _ rfl rfl (o_neI rfl rfl) ?_
    refine RG.op _ _ rfl rfl (o_move (.v _) rfl) ?_
    refine RG.opg1 _ _ _ _ _ rfl rfl rfl rfl rfl (fun hb => o_move (.v _) rfl) ?_
    refine RG.opg1 _ _ _ _ _ rfl rfl rfl rfl rfl (fun hb => o_neI (gdT hb) rfl) ?_
    refine RG.op _ _ rfl rfl (o_or _ _ rfl rfl rfl) ?_
    refine RG.nil (h9_ _ ?_)
    refine WC.cond _ rfl (fun c6 => ?_) (fun c6 => ?_)
    ·
      have p6 := c6
      try simp only [CN] at p6
      cases c6
    ·
      have p6 := c6
      try simp only [CN] at p6
      refine WC.skip (h8_ _ ?_)
      refine WC.seq fun Fh10_ h10_ => ?_
      refine WC.region ?_
      refine RG.op _ _ rfl rfl (o_nil 24 1) ?_
      refine RG.nil (h10_ _ ?_)
      refine WC.seq fun Fh11_ h11_ => ?_
      refine WC.region ?_
      refine RG.op _ _ rfl rfl (o_assign (.v _) rfl) ?_
      refine RG.nil (h11_ _ ?_)
      refine WC.seq fun Fh12_ h12_ => ?_
      refine WC.seq fun Fh13_ h13_ => ?_
      refine WC.region ?_
      refine RG.op _ _ rfl rfl (o_assign (.v _) rfl) ?_
      refine RG.nil (h13_ _ ?_)
      refine WC.block ?_
      refine WC.loopU [13, 14, 15, 16, 63, 64, 65, 66, 67, 68, 69, 70, 71, 72, 73, 74, 75, 76, 77, 78, 79, 80, 81, 82, 83, 84, 85, 86, 87, 88, 89, 90, 91, 92, 93, 94, 95, 96, 97, 98, 99, 100, 101, 102, 103, 104] (fun (p : List (List Pr)) => [(15, I64 ((p.length : Nat) : Int)), (14, I64 ((p.flatten.length : Nat) : Int)), (13, ow 7 p.length 1)]) (fun (p : List (List Pr)) => [(7, tb 24 p.length (p.map fun q => D.adr (stA op (foldF op q))))]) (fun (p : List (List Pr)) => Cut c l p) (fun (p : List (List Pr)) => c.length + 1 - p.length) [] ⟨rfl, Nat.zero_le _, Nat.zero_le _, fun h => absurd h (by simp)⟩ ?lpa14_ ?lpb15_
      case lpa14_ =>
        exact .mk' ⟨⟨rfl, .v _⟩, ⟨rfl, .v _⟩, ⟨rfl, (by first | exact .own _ _ _ _ _ (Nat.le_refl _) | exact .ptr _ _ _ (Nat.le_refl _) | exact .omp _ _ (Nat.le_refl _))⟩, trivial⟩ (same_refl _ _) (rfl) (by repeat (first | exact trivial | refine And.intro (Nat.le_refl _) ?_ | refine And.intro trivial ?_ | refine And.intro (by show _ ≤ _; (first | omega | (simp only [LS, len_pvs] <;> omega))) ?_)) (by repeat (first | exact trivial | refine And.intro (one_ok (.own _ _ _ _ _ (Nat.le_refl _))) ?_ | refine And.intro (okp (by repeat (first | exact pu_pvs _ | exact adr_pu _ _ | exact pu_bytes _ | exact pu_nil | exact pu_vs rfl | exact pu_map (fun _ => .v _) _ | exact pu_vals _ | refine pu_app ?_ ?_ | refine pu_cons (by exact pu_of rfl) ?_))) ?_))
      case lpb15_ =>
        rintro p hI
        have hC := hI
        have hC2 := hI.2.1
        have hC3 := hI.2.2.1
        have hCn := cutN_le (c := c) hC2
        have hCl := nextP_len (c := c) hC2
        refine WC.seq fun Fh16_ h16_ => ?_
        refine WC.seq fun Fh17_ h17_ => ?_
        refine WC.region ?_
        refine RG.op _ _ rfl rfl (o_move (.v _) rfl) ?_
        refine RG.op _ _ rfl rfl (o_move (.rd _ _) rfl) ?_
        refine RG.op _ _ rfl rfl (o_len_rd rfl Try.underlying36) ?_
        refine RG.op _ _ rfl rfl (o_leI rfl rfl) ?_
        refine RG.nil (h17_ _ ?_)
        refine WC.cond _ rfl (fun c11 => ?_) (fun c11 => ?_)
        ·
          have p11 := c11
          try simp only [CN] at p11
          have hpk : p.length ≤ c.length := by omega
          refine WC.skip (h16_ _ ?_)
          refine WC.seq fun Fh18_ h18_ => ?_
          refine WC.block ?_
          refine WC.seq fun Fh19_ h19_ => ?_
          refine WC.region ?_
          refine RG.op _ _ rfl rfl (o_move (.rd _ _) rfl) ?_
          refine RG.op _ _ rfl rfl (o_len_rd rfl Try.underlying35) ?_
          refine RG.op _ _ rfl rfl (o_move (.v _) rfl) ?_
          refine RG.op _ _ rfl rfl (o_sub rfl rfl (by first | omega | exact ubyte _ | (simp only [LS, len_pvs] <;> omega)) (by first | omega | exact ubyte _ | (simp only [LS, len_pvs] <;> omega))) ?_
          refine RG.op _ _ rfl rfl (o_assign (.v _) rfl) ?_
          refine RG.nil (h19_ _ ?_)
          refine WC.seq fun Fh20_ h20_ => ?_
          refine WC.seq fun Fh21_ h21_ => ?_
          refine WC.region ?_
          refine RG.op _ _ rfl rfl (o_move (.v _) rfl) ?_
          refine RG.op _ _ rfl rfl (o_move (.rd _ _) rfl) ?_
          refine RG.op _ _ rfl rfl (o_len_rd rfl Try.underlying36) ?_
          refine RG.op _ _ rfl rfl (o_ltI rfl rfl) ?_
          refine RG.nil (h21_ _ ?_)
          refine WC.cond _ rfl (fun c14 => ?_) (fun c14 => ?_)
          ·
            have p14 := c14
            try simp only [CN] at p14
            have hpk2 : p.length < c.length := by omega
            refine WC.seq fun Fh22_ h22_ => ?_
            refine WC.region ?_
            refine RG.op _ _ rfl rfl (o_move (.rd _ _) rfl) ?_
            refine RG.op _ _ rfl rfl (o_move (.v _) rfl) ?_
            refine RG.op _ _ rfl rfl (o_ixn_M p.length rfl rfl Try.underlying36 (sz_of Ty.inf3) (by first | omega | exact ubyte _ | (simp only [LS, len_pvs] <;> omega)) (by first | omega | exact ubyte _ | (simp only [LS, len_pvs] <;> omega))) ?_
            refine RG.op _ _ rfl rfl (o_load_adr rfl Try.underlying3 rfl rfl) ?_
            refine RG.op _ _ rfl rfl (o_move (.rd _ _) rfl) ?_
            refine RG.op _ _ rfl rfl (o_len_rd rfl Try.underlying35) ?_
            refine RG.op _ _ rfl rfl (o_move (.v _) rfl) ?_
            refine RG.op _ _ rfl rfl (o_sub rfl rfl (by first | omega | exact ubyte _ | (simp only [LS, len_pvs] <;> omega)) (by first | omega | exact ubyte _ | (simp only [LS, len_pvs] <;> omega))) ?_
            refine RG.op _ _ rfl rfl (o_add rfl rfl (by first | omega | exact ubyte _ | (simp only [LS, len_pvs] <;> omega)) (by first | omega | exact ubyte _ | (simp only [LS, len_pvs] <;> omega))) ?_
            refine RG.op _ _ rfl rfl (o_remT rfl rfl (by omega)) ?_
            refine RG.op _ _ rfl rfl (o_assign (.v _) rfl) ?_
            refine RG.nil (h22_ _ ?_)
            refine WC.seq fun Fh23_ h23_ => ?_
            refine WC.region ?_
            refine RG.op _ _ rfl rfl (o_move (.v _) rfl) ?_
            refine RG.op _ _ rfl rfl (o_ltI rfl rfl) ?_
            refine RG.nil (h23_ _ ?_)
            refine WC.cond _ rfl (fun c16 => ?_) (fun c16 => ?_)
            ·
              have p16 := c16
              try simp only [CN] at p16
              have hnn := cut_neg (l := l) hpk2 c16
              refine WC.region ?_
              refine RG.op _ _ rfl rfl (o_move (.v _) rfl) ?_
              refine RG.op _ _ rfl rfl (o_neg rfl (by first | omega | exact ubyte _ | (simp only [LS, len_pvs] <;> omega)) (by first | omega | exact ubyte _ | (simp only [LS, len_pvs] <;> omega))) ?_
              refine RG.op _ _ rfl rfl (o_assign (.v _) rfl) ?_
              refine RG.nil (h20_ _ ?_)
              refine WC.seq fun Fh24_ h24_ => ?_
              refine WC.region ?_
              refine RG.op _ _ rfl rfl (o_move (.own _ _ _ _ _) rfl) ?_
              refine RG.op _ _ rfl rfl (o_move (.v _) rfl) ?_
              refine RG.op _ _ rfl rfl (o_move (.rd _ _) rfl) ?_
              refine RG.op _ _ rfl rfl (o_move (.v _) rfl) ?_
              refine RG.op _ _ rfl rfl (o_move (.v _) rfl) ?_
              refine RG.op _ _ rfl rfl ((o_move (.v _) rfl).cast (d' := I64 (cutN c l p : Int)) (congrArg I64 hnn)) ?_
              refine RG.op _ _ rfl rfl (o_add rfl rfl (by first | omega | exact ubyte _ | (simp only [LS, len_pvs] <;> omega)) (by first | omega | exact ubyte _ | (simp only [LS, len_pvs] <;> omega))) ?_
              refine RG.op _ _ rfl rfl ((o_partL (l := l) (f := pv) (i' := (p.flatten.length : Int) + (cutN c l p : Int)) p.flatten.length (p.flatten.length + cutN c l p) pv_len rfl rfl rfl Try.underlying35 (sz_of Ty.inf42) rfl (by omega) (by omega) (by omega)).cast (d' := rdQ (nextP c l p)) (congrArg (fun q => rdQ ((l.drop p.flatten.length).take q)) (Nat.add_sub_cancel_left _ _))) ?_
              refine RG.op _ _ rfl rfl (o_call Ty.cal15 (fedA_c op (nextP c l p) hc (by omega) (fun x hx => hi x (List.mem_of_mem_drop (List.mem_of_mem_take hx)))) ⟨.inl rfl, .inl rfl, trivial⟩ (by exact pua rfl)) ?_
              refine RG.op _ _ rfl rfl (o_litP (cs := [(.adr _)]) Try.underlying40 Ty.inf24 rfl rfl rfl rfl (by repeat (first | exact pu_pvs _ | exact adr_pu _ _ | exact pu_bytes _ | exact pu_nil | exact pu_vs rfl | exact pu_map (fun _ => .v _) _ | exact pu_vals _ | refine pu_app ?_ ?_ | refine pu_cons (by exact pu_of rfl) ?_))) ?_
              refine RG.op _ _ rfl rfl (o_appT (Elem.of Try.underlying40 Ty.inf24 rfl (by decide)) rfl rfl rfl (by first | omega | exact ubyte _ | (simp only [LS, len_pvs] <;> omega)) (by first | omega | exact ubyte _ | (simp only [LS, len_pvs] <;> omega)) (by repeat (first | exact bytesD_one _ | exact one_nil | exact one_map (fun _ => rfl) _ | exact one_vals _ | exact one_pvs _ | exact adr_one _ | refine one_app ?_ ?_ | refine one_cons rfl ?_)) (by first | omega | exact ubyte _ | (simp only [LS, len_pvs] <;> omega)) (by first | omega | exact ubyte _ | (simp only [LS, len_pvs] <;> omega))) ?_
              refine RG.op _ _ rfl rfl (o_assign (.own _ _ _ _ _) rfl) ?_
              refine RG.nil (h24_ _ ?_)
              refine WC.region ?_
              refine RG.op _ _ rfl rfl (o_move (.v _) rfl) ?_
              refine RG.op _ _ rfl rfl ((o_move (.v _) rfl).cast (d' := I64 (cutN c l p : Int)) (congrArg I64 hnn)) ?_
              refine RG.op _ _ rfl rfl (o_add rfl rfl (by first | omega | exact ubyte _ | (simp only [LS, len_pvs] <;> omega)) (by first | omega | exact ubyte _ | (simp only [LS, len_pvs] <;> omega))) ?_
              refine RG.op _ _ rfl rfl (o_assign (.v _) rfl) ?_
              refine RG.nil (h18_ _ ?_)
              refine WC.region ?_
              refine RG.op _ _ rfl rfl (o_move (.v _) rfl) ?_
              refine RG.op _ _ rfl rfl (o_add rfl rfl (by first | omega | exact ubyte _ | (simp only [LS, len_pvs] <;> omega)) (by first | omega | exact ubyte _ | (simp only [LS, len_pvs] <;> omega))) ?_
              refine RG.op _ _ rfl rfl (o_assign (.v _) rfl) ?_
              refine RG.nil (Exists.intro (p ++ [nextP c l p]) ⟨cut_next hC hpk, by simp; omega, ?_⟩)
              exact .mk' ⟨⟨congrArg I64 (by simp), .v _⟩, ⟨congrArg I64 (by rw [flat_snoc, List.length_append, hCl]; simp), .v _⟩, ⟨ow_eq (by simp), (by first | exact .own _ _ _ _ _ (Nat.le_refl _) | exact .ptr _ _ _ (Nat.le_refl _) | exact .omp _ _ (Nat.le_refl _))⟩, trivial⟩ (by repeat (first | with_reducible exact same_refl _ _ | with_reducible refine same_updO (by with_unfolding_all exact rfl) ?_ | with_reducible refine same_updN ?_ | with_reducible refine same_updL (by with_unfolding_all exact rfl) ?_ | with_reducible refine same_forget (by with_unfolding_all exact rfl) ?_)) (congrArg (fun c => [wb op, sb op (foldF op l), some ⟨vc (ansM op (foldF op l)).1, 23, false, 0⟩, wb op, sb op (st0 op), wb op, sb op (st0 op), c]) (tb_eq (by simp) (by simp))) (by repeat (first | exact trivial | refine And.intro (Nat.le_refl _) ?_ | refine And.intro trivial ?_ | refine And.intro (by show _ ≤ _; (first | omega | (simp only [LS, len_pvs] <;> omega))) ?_)) (by repeat (first | exact trivial | refine And.intro (one_ok (.own _ _ _ _ _ (Nat.le_refl _))) ?_ | refine And.intro (okp (by repeat (first | exact pu_pvs _ | exact adr_pu _ _ | exact pu_bytes _ | exact pu_nil | exact pu_vs rfl | exact pu_map (fun _ => .v _) _ | exact pu_vals _ | refine pu_app ?_ ?_ | refine pu_cons (by exact pu_of rfl) ?_))) ?_))
            ·
              have p16 := c16
              try simp only [CN] at p16
              have hnn := cut_pos (l := l) hpk2 c16
              refine WC.skip (h20_ _ ?_)
              refine WC.seq fun Fh25_ h25_ => ?_
              refine WC.region ?_
              refine RG.op _ _ rfl rfl (o_move (.own _ _ _ _ _) rfl) ?_
              refine RG.op _ _ rfl rfl (o_move (.v _) rfl) ?_
              refine RG.op _ _ rfl rfl (o_move (.rd _ _) rfl) ?_
              refine RG.op _ _ rfl rfl (o_move (.v _) rfl) ?_
              refine RG.op _ _ rfl rfl (o_move (.v _) rfl) ?_
              refine RG.op _ _ rfl rfl ((o_move (.v _) rfl).cast (d' := I64 (cutN c l p : Int)) (congrArg I64 hnn)) ?_
              refine RG.op _ _ rfl rfl (o_add rfl rfl (by first | omega | exact ubyte _ | (simp only [LS, len_pvs] <;> omega)) (by first | omega | exact ubyte _ | (simp only [LS, len_pvs] <;> omega))) ?_
              refine RG.op _ _ rfl rfl ((o_partL (l := l) (f := pv) (i' := (p.flatten.length : Int) + (cutN c l p : Int)) p.flatten.length (p.flatten.length + cutN c l p) pv_len rfl rfl rfl Try.underlying35 (sz_of Ty.inf42) rfl (by omega) (by omega) (by omega)).cast (d' := rdQ (nextP c l p)) (congrArg (fun q => rdQ ((l.drop p.flatten.length).take q)) (Nat.add_sub_cancel_left _ _))) ?_
              refine RG.op _ _ rfl rfl (o_call Ty.cal15 (fedA_c op (nextP c l p) hc (by omega) (fun x hx => hi x (List.mem_of_mem_drop (List.mem_of_mem_take hx)))) ⟨.inl rfl, .inl rfl, trivial⟩ (by exact pua rfl)) ?_
              refine RG.op _ _ rfl rfl (o_litP (cs := [(.adr _)]) Try.underlying40 Ty.inf24 rfl rfl rfl rfl (by repeat (first | exact pu_pvs _ | exact adr_pu _ _ | exact pu_bytes _ | exact pu_nil | exact pu_vs rfl | exact pu_map (fun _ => .v _) _ | exact pu_vals _ | refine pu_app ?_ ?_ | refine pu_cons (by exact pu_of rfl) ?_))) ?_
              refine RG.op _ _ rfl rfl (o_appT (Elem.of Try.underlying40 Ty.inf24 rfl (by decide)) rfl rfl rfl (by first | omega | exact ubyte _ | (simp only [LS, len_pvs] <;> omega)) (by first | omega | exact ubyte _ | (simp only [LS, len_pvs] <;> omega)) (by repeat (first | exact bytesD_one _ | exact one_nil | exact one_map (fun _ => rfl) _ | exact one_vals _ | exact one_pvs _ | exact adr_one _ | refine one_app ?_ ?_ | refine one_cons rfl ?_)) (by first | omega | exact ubyte _ | (simp only [LS, len_pvs] <;> omega)) (by first | omega | exact ubyte _ | (simp only [LS, len_pvs] <;> omega))) ?_
              refine RG.op _ _ rfl rfl (o_assign (.own _ _ _ _ _) rfl) ?_
              refine RG.nil (h25_ _ ?_)
              refine WC.region ?_
              refine RG.op _ _ rfl rfl (o_move (.v _) rfl) ?_
              refine RG.op _ _ rfl rfl ((o_move (.v _) rfl).cast (d' := I64 (cutN c l p : Int)) (congrArg I64 hnn)) ?_
              refine RG.op _ _ rfl rfl (o_add rfl rfl (by first | omega | exact ubyte _ | (simp only [LS, len_pvs] <;> omega)) (by first | omega | exact ubyte _ | (simp only [LS, len_pvs] <;> omega))) ?_
              refine RG.op _ _ rfl rfl (o_assign (.v _) rfl) ?_
              refine RG.nil (h18_ _ ?_)
              refine WC.region ?_
              refine RG.op _ _ rfl rfl (o_move (.v _) rfl) ?_
              refine RG.op _ _ rfl rfl (o_add rfl rfl (by first | omega | exact ubyte _ | (simp only [LS, len_pvs] <;> omega)) (by first | omega | exact ubyte _ | (simp only [LS, len_pvs] <;> omega))) ?_
              refine RG.op _ _ rfl rfl (o_assign (.v _) rfl) ?_
              refine RG.nil (Exists.intro (p ++ [nextP c l p]) ⟨cut_next hC hpk, by simp; omega, ?_⟩)
              exact .mk' ⟨⟨congrArg I64 (by simp), .v _⟩, ⟨congrArg I64 (by rw [flat_snoc, List.length_append, hCl]; simp), .v _⟩, ⟨ow_eq (by simp), (by first | exact .own _ _ _ _ _ (Nat.le_refl _) | exact .ptr _ _ _ (Nat.le_refl _) | exact .omp _ _ (Nat.le_refl _))⟩, trivial⟩ (by repeat (first | with_reducible exact same_refl _ _ | with_reducible refine same_updO (by with_unfolding_all exact rfl) ?_ | with_reducible refine same_updN ?_ | with_reducible refine same_updL (by with_unfolding_all exact rfl) ?_ | with_reducible refine same_forget (by with_unfolding_all exact rfl) ?_)) (congrArg (fun c => [wb op, sb op (foldF op l), some ⟨vc (ansM op (foldF op l)).1, 23, false, 0⟩, wb op, sb op (st0 op), wb op, sb op (st0 op), c]) (tb_eq (by simp) (by simp))) (by repeat (first | exact trivial | refine And.intro (Nat.le_refl _) ?_ | refine And.intro trivial ?_ | refine And.intro (by show _ ≤ _; (first | omega | (simp only [LS, len_pvs] <;> omega))) ?_)) (by repeat (first | exact trivial | refine And.intro (one_ok (.own _ _ _ _ _ (Nat.le_refl _))) ?_ | refine And.intro (okp (by repeat (first | exact pu_pvs _ | exact adr_pu _ _ | exact pu_bytes _ | exact pu_nil | exact pu_vs rfl | exact pu_map (fun _ => .v _) _ | exact pu_vals _ | refine pu_app ?_ ?_ | refine pu_cons (by exact pu_of rfl) ?_))) ?_))
          ·
            have p14 := c14
            try simp only [CN] at p14
            have hnn : (l.length : Int) - (p.flatten.length : Int) = (cutN c l p : Int) := by unfold cutN; rw [if_neg (by omega)]; omega
            refine WC.skip (h20_ _ ?_)
            refine WC.seq fun Fh26_ h26_ => ?_
            refine WC.region ?_
            refine RG.op _ _ rfl rfl (o_move (.own _ _ _ _ _) rfl) ?_
            refine RG.op _ _ rfl rfl (o_move (.v _) rfl) ?_
            refine RG.op _ _ rfl rfl (o_move (.rd _ _) rfl) ?_
            refine RG.op _ _ rfl rfl (o_move (.v _) rfl) ?_
            refine RG.op _ _ rfl rfl (o_move (.v _) rfl) ?_
            refine RG.op _ _ rfl rfl ((o_move (.v _) rfl).cast (d' := I64 (cutN c l p : Int)) (congrArg I64 hnn)) ?_
            refine RG.op _ _ rfl rfl (o_add rfl rfl (by first | omega | exact ubyte _ | (simp only [LS, len_pvs] <;> omega)) (by first | omega | exact ubyte _ | (simp only [LS, len_pvs] <;> omega))) ?_
            refine RG.op _ _ rfl rfl ((o_partL (l := l) (f := pv) (i' := (p.flatten.length : Int) + (cutN c l p : Int)) p.flatten.length (p.flatten.length + cutN c l p) pv_len rfl rfl rfl Try.underlying35 (sz_of Ty.inf42) rfl (by omega) (by omega) (by omega)).cast (d' := rdQ (nextP c l p)) (congrArg (fun q => rdQ ((l.drop p.flatten.length).take q)) (Nat.add_sub_cancel_left _ _))) ?_
            refine RG.op _ _ rfl rfl (o_call Ty.cal15 (fedA_c op (nextP c l p) hc (by omega) (fun x hx => hi x (List.mem_of_mem_drop (List.mem_of_mem_take hx)))) ⟨.inl rfl, .inl rfl, trivial⟩ (by exact pua rfl)) ?_
            refine RG.op _ _ rfl rfl (o_litP (cs := [(.adr _)]) Try.underlying40 Ty.inf24 rfl rfl rfl rfl (by repeat (first | exact pu_pvs _ | exact adr_pu _ _ | exact pu_bytes _ | exact pu_nil | exact pu_vs rfl | exact pu_map (fun _ => .v _) _ | exact pu_vals _ | refine pu_app ?_ ?_ | refine pu_cons (by exact pu_of rfl) ?_))) ?_
            refine RG.op _ _ rfl rfl (o_appT (Elem.of Try.underlying40 Ty.inf24 rfl (by decide)) rfl rfl rfl (by first | omega | exact ubyte _ | (simp only [LS, len_pvs] <;> omega)) (by first | omega | exact ubyte _ | (simp only [LS, len_pvs] <;> omega)) (by repeat (first | exact bytesD_one _ | exact one_nil | exact one_map (fun _ => rfl) _ | exact one_vals _ | exact one_pvs _ | exact adr_one _ | refine one_app ?_ ?_ | refine one_cons rfl ?_)) (by first | omega | exact ubyte _ | (simp only [LS, len_pvs] <;> omega)) (by first | omega | exact ubyte _ | (simp only [LS, len_pvs] <;> omega))) ?_
            refine RG.op _ _ rfl rfl (o_assign (.own _ _ _ _ _) rfl) ?_
            refine RG.nil (h26_ _ ?_)
            refine WC.region ?_
            refine RG.op _ _ rfl rfl (o_move (.v _) rfl) ?_
            refine RG.op _ _ rfl rfl ((o_move (.v _) rfl).cast (d' := I64 (cutN c l p : Int)) (congrArg I64 hnn)) ?_
            refine RG.op _ _ rfl rfl (o_add rfl rfl (by first | omega | exact ubyte _ | (simp only [LS, len_pvs] <;> omega)) (by first | omega | exact ubyte _ | (simp only [LS, len_pvs] <;> omega))) ?_
            refine RG.op _ _ rfl rfl (o_assign (.v _) rfl) ?_
            refine RG.nil (h18_ _ ?_)
            refine WC.region ?_
            refine RG.op _ _ rfl rfl (o_move (.v _) rfl) ?_
            refine RG.op _ _ rfl rfl (o_add rfl rfl (by first | omega | exact ubyte _ | (simp only [LS, len_pvs] <;> omega)) (by first | omega | exact ubyte _ | (simp only [LS, len_pvs] <;> omega))) ?_
            refine RG.op _ _ rfl rfl (o_assign (.v _) rfl) ?_
            refine RG.nil (Exists.intro (p ++ [nextP c l p]) ⟨cut_next hC hpk, by simp; omega, ?_⟩)
            exact .mk' ⟨⟨congrArg I64 (by simp), .v _⟩, ⟨congrArg I64 (by rw [flat_snoc, List.length_append, hCl]; simp), .v _⟩, ⟨ow_eq (by simp), (by first | exact .own _ _ _ _ _ (Nat.le_refl _) | exact .ptr _ _ _ (Nat.le_refl _) | exact .omp _ _ (Nat.le_refl _))⟩, trivial⟩ (by repeat (first | with_reducible exact same_refl _ _ | with_reducible refine same_updO (by with_unfolding_all exact rfl) ?_ | with_reducible refine same_updN ?_ | with_reducible refine same_updL (by with_unfolding_all exact rfl) ?_ | with_reducible refine same_forget (by with_unfolding_all exact rfl) ?_)) (congrArg (fun c => [wb op, sb op (foldF op l), some ⟨vc (ansM op (foldF op l)).1, 23, false, 0⟩, wb op, sb op (st0 op), wb op, sb op (st0 op), c]) (tb_eq (by simp) (by simp))) (by repeat (first | exact trivial | refine And.intro (Nat.le_refl _) ?_ | refine And.intro trivial ?_ | refine And.intro (by show _ ≤ _; (first | omega | (simp only [LS, len_pvs] <;> omega))) ?_)) (by repeat (first | exact trivial | refine And.intro (one_ok (.own _ _ _ _ _ (Nat.le_refl _))) ?_ | refine And.intro (okp (by repeat (first | exact pu_pvs _ | exact adr_pu _ _ | exact pu_bytes _ | exact pu_nil | exact pu_vs rfl | exact pu_map (fun _ => .v _) _ | exact pu_vals _ | refine pu_app ?_ ?_ | refine pu_cons (by exact pu_of rfl) ?_))) ?_))
        ·
          have p11 := c11
          try simp only [CN] at p11
          have hpe : p.length = c.length + 1 := by omega
          have hlen : p.flatten.length = l.length := hC.2.2.2 hpe
          have hfl : p.flatten = l := cut_all hC hlen
          have hm := cut_mem hfl
          have hm' : ∀ q ∈ p.reverse, ∀ x ∈ q, x ∈ l := fun q hq => hm q (List.mem_reverse.1 hq)
          have hlen' : p.reverse.flatten.length = l.length := rev_len hlen
          have hPA := parts_all hc p l
          have hgN : (fun q => D.adr (stA op (foldF op q))) = fun q => D.adr (stA op (foldF op q)) := rfl
          refine WC.exit (h12_ _ ?_)
          refine WC.seq fun Fh27_ h27_ => ?_
          refine WC.seq fun Fh28_ h28_ => ?_
          refine WC.frz 7 _ [(13, .rd p.length (p.map fun q => D.adr (stA op (foldF op q))))] rfl (by repeat (first | exact pu_pvs _ | exact adr_pu _ _ | exact pu_bytes _ | exact pu_nil | exact pu_vs rfl | exact pu_map (fun _ => .v _) _ | exact pu_vals _ | refine pu_app ?_ ?_ | refine pu_cons (by exact pu_of rfl) ?_)) ⟨.rowE rfl (by first | rfl | omega | (simp; done) | (simp; omega)) (by first | rfl | simp [bytesD]), trivial⟩ ?_
          refine WC.region ?_
          refine RG.op _ _ rfl rfl (o_assign (.v _) rfl) ?_
          refine RG.nil (h28_ _ ?_)
          refine WC.block ?_
          refine WC.loopU [6, 17, 105, 106, 107, 108, 109, 110, 111, 112, 113, 114, 115, 116, 117, 118, 119, 120, 121, 122, 123, 124, 125, 126, 127, 128, 129, 130] (fun (j : Nat) => [(17, I64 ((j : Nat) : Int))]) (fun (j : Nat) => [(4, sb op (FA op (p.take j))), (6, sb op (FA op (p.reverse.take j)))]) (fun (j : Nat) => j ≤ p.length) (fun (j : Nat) => p.length - j) 0 (by first | omega | exact ubyte _ | (simp only [LS, len_pvs] <;> omega)) ?lpa29_ ?lpb30_
          case lpa29_ =>
            exact .mk' ⟨⟨rfl, .v _⟩, trivial⟩ (same_refl _ _) (rfl) (by repeat (first | exact trivial | refine And.intro (Nat.le_refl _) ?_ | refine And.intro trivial ?_ | refine And.intro (by show _ ≤ _; (first | omega | (simp only [LS, len_pvs] <;> omega))) ?_)) (by repeat (first | exact trivial | refine And.intro (one_ok (.own _ _ _ _ _ (Nat.le_refl _))) ?_ | refine And.intro (okp (by repeat (first | exact pu_pvs _ | exact adr_pu _ _ | exact pu_bytes _ | exact pu_nil | exact pu_vs rfl | exact pu_map (fun _ => .v _) _ | exact pu_vals _ | refine pu_app ?_ ?_ | refine pu_cons (by exact pu_of rfl) ?_))) ?_))
          case lpb30_ =>
            rintro j hI
            refine WC.seq fun Fh31_ h31_ => ?_
            refine WC.seq fun Fh32_ h32_ => ?_
            refine WC.region ?_
            refine RG.op _ _ rfl rfl (o_move (.v _) rfl) ?_
            refine RG.op _ _ rfl rfl (o_move (.rd _ _) rfl) ?_
            refine RG.op _ _ rfl rfl (o_len_rd rfl Try.underlying40) ?_
            refine RG.op _ _ rfl rfl (o_ltI rfl rfl) ?_
            refine RG.nil (h32_ _ ?_)
            refine WC.cond _ rfl (fun c21 => ?_) (fun c21 => ?_)
            ·
              have p21 := c21
              try simp only [CN] at p21
              have hjp : j < p.length := by omega
              have hjr : j < p.reverse.length := by rw [List.length_reverse]; exact hjp
              have hA1 := fa_room hc hm hlen hg hi j
              have hA2 := fa_room hc hm' hlen' hg hi j
              have hB1 := part_room (op := op) hm hlen hg hi (List.getElem_mem hjp)
              have hB2 := part_room (op := op) hm' hlen' hg hi (List.getElem_mem hjr)
              refine WC.skip (h31_ _ ?_)
              refine WC.seq fun Fh33_ h33_ => ?_
              refine WC.block ?_
              refine WC.seq fun Fh34_ h34_ => ?_
              refine WC.region ?_
              refine RG.op _ _ rfl rfl (o_move (.ptr _ _ _) rfl) ?_
              refine RG.op _ _ rfl rfl (o_move (.rd _ _) rfl) ?_
              refine RG.op _ _ rfl rfl (o_move (.v _) rfl) ?_
              refine RG.op _ _ rfl rfl (o_ixn_M (l := p) (g := fun q => D.adr (stA op (foldF op q))) j rfl rfl Try.underlying40 (sz_of Ty.inf24) rfl hjp) ?_
              refine RG.op _ _ rfl rfl (o_load_adr (d := D.adr (stA op (foldF op (p[j]'hjp)))) rfl Try.underlying24 rfl rfl) ?_
              refine RG.op _ _ rfl rfl (OpX.d (x_call Ty.cal10 (add_at op (FA op (p.take j)) (foldF op (p[j]'hjp)) hc hA1 hB1 4 rfl) ⟨.inl rfl, .inl rfl, trivial⟩) (hle_set (s := (FA op (p.take j))) rfl)) ?_
              refine RG.op _ _ rfl rfl (o_neI rfl rfl) ?_
              refine RG.op _ _ rfl rfl (o_move (.v _) rfl) ?_
              refine RG.opg1 _ _ _ _ _ rfl rfl rfl rfl rfl (fun hb => o_move (.ptr _ _ _) rfl) ?_
              refine RG.opg1 _ _ _ _ _ rfl rfl rfl rfl rfl (fun hb => o_move (.rd _ _) rfl) ?_
              refine RG.opg1 _ _ _ _ _ rfl rfl rfl rfl rfl (fun hb => o_move (.rd _ _) rfl) ?_
              refine RG.opg1 _ _ _ _ _ rfl rfl rfl rfl rfl (fun hb => o_len_rd (gdT hb) Try.underlying40) ?_
              refine RG.opg1 _ _ _ _ _ rfl rfl rfl rfl rfl (fun hb => o_sub (gdT hb) rfl (by first | omega | exact ubyte _ | (have hb' := hb; simp only [CN] at hb'; omega) | (simp only [LS, len_pvs] <;> omega) | (have hb' := hb; simp only [CN] at hb'; simp only [LS, len_pvs]; omega)) (by first | omega | exact ubyte _ | (have hb' := hb; simp only [CN] at hb'; omega) | (simp only [LS, len_pvs] <;> omega) | (have hb' := hb; simp only [CN] at hb'; simp only [LS, len_pvs]; omega))) ?_
              refine RG.opg1 _ _ _ _ _ rfl rfl rfl rfl rfl (fun hb => o_move (.v _) rfl) ?_
              refine RG.opg1 _ _ _ _ _ rfl rfl rfl rfl rfl (fun hb => o_sub (gdT hb) (gdT hb) (by first | omega | exact ubyte _ | (have hb' := hb; simp only [CN] at hb'; omega) | (simp only [LS, len_pvs] <;> omega) | (have hb' := hb; simp only [CN] at hb'; simp only [LS, len_pvs]; omega)) (by first | omega | exact ubyte _ | (have hb' := hb; simp only [CN] at hb'; omega) | (simp only [LS, len_pvs] <;> omega) | (have hb' := hb; simp only [CN] at hb'; simp only [LS, len_pvs]; omega))) ?_
              refine RG.opg1 _ _ _ _ _ rfl rfl rfl rfl rfl (fun hb => o_ixn_MZ [] (l := p) (g := fun q => D.adr (stA op (foldF op q))) (p.length - 1 - j) (gdT hb) (gdT hb) Try.underlying40 (sz_of Ty.inf24) (by omega) (by omega)) ?_
              refine RG.opg1 _ _ _ _ _ rfl rfl rfl rfl rfl (fun hb => (o_load_adr (d := D.adr (stA op (foldF op (p.getD (p.length - 1 - j) [])))) rfl Try.underlying24 rfl rfl).cast (d' := D.adr (stA op (foldF op (p.reverse[j]'hjr)))) (congrArg (fun q => D.adr (stA op (foldF op q))) (rev_at hjp hjr))) ?_
              refine RG.opgM _ _ _ _ (I64 0) _ rfl rfl rfl rfl rfl rfl (OpX.d (x_call Ty.cal10 (add_at op (FA op (p.reverse.take j)) (foldF op (p.reverse[j]'hjr)) hc hA2 hB2 6 rfl) ⟨.inl rfl, .inl rfl, trivial⟩) (hle_set (s := (FA op (p.reverse.take j))) rfl)) ?_
              refine RG.opg1 _ _ _ _ _ rfl rfl rfl rfl rfl (fun hb => o_neI rfl rfl) ?_
              refine RG.op _ _ rfl rfl (o_or _ _ rfl rfl rfl) ?_
              refine RG.nil (h34_ _ ?_)
              refine WC.cond _ rfl (fun c23 => ?_) (fun c23 => ?_)
              ·
                have p23 := c23
                try simp only [CN] at p23
                cases c23
              ·
                have p23 := c23
                try simp only [CN] at p23
                refine WC.skip (h33_ _ ?_)
                refine WC.region ?_
                refine RG.op _ _ rfl rfl (o_move (.v _) rfl) ?_
                refine RG.op _ _ rfl rfl (o_add rfl rfl (by first | omega | exact ubyte _ | (simp only [LS, len_pvs] <;> omega)) (by first | omega | exact ubyte _ | (simp only [LS, len_pvs] <;> omega))) ?_
                refine RG.op _ _ rfl rfl (o_assign (.v _) rfl) ?_
                refine RG.nil (Exists.intro (j + 1) ⟨by first | omega | (simp only [LS, len_pvs] <;> omega), by first | omega | (simp only [LS, len_pvs] <;> omega), ?_⟩)
                exact .mk' ⟨⟨rfl, .v _⟩, trivial⟩ (by repeat (first | with_reducible exact same_refl _ _ | with_reducible refine same_updO (by with_unfolding_all exact rfl) ?_ | with_reducible refine same_updN ?_ | with_reducible refine same_updL (by with_unfolding_all exact rfl) ?_ | with_reducible refine same_forget (by with_unfolding_all exact rfl) ?_)) (heq46 (fa_take hjp).symm (fa_take (ps := p.reverse) hjr).symm) (by repeat (first | exact trivial | refine And.intro (Nat.le_refl _) ?_ | refine And.intro trivial ?_ | refine And.intro (by show _ ≤ _; (first | omega | (simp only [LS, len_pvs] <;> omega))) ?_)) (by repeat (first | exact trivial | refine And.intro (one_ok (.own _ _ _ _ _ (Nat.le_refl _))) ?_ | refine And.intro (okp (by repeat (first | exact pu_pvs _ | exact adr_pu _ _ | exact pu_bytes _ | exact pu_nil | exact pu_vs rfl | exact pu_map (fun _ => .v _) _ | exact pu_vals _ | refine pu_app ?_ ?_ | refine pu_cons (by exact pu_of rfl) ?_))) ?_))
            ·
              have p21 := c21
              try simp only [CN] at p21
              have hje : j = p.length := by omega
              have hU : FA op (p.take j) = foldF op l := by rw [hje, List.take_length, hPA.1, hfl]
              have hD : FA op (p.reverse.take j) = foldF op l := by rw [hje, List.take_of_length_le (Nat.le_of_eq List.length_reverse), hPA.2.1, hfl]
              refine WC.exit (h27_ _ ?_)
              refine WC.seq fun Fh35_ h35_ => ?_
              refine WC.reH [wb op, sb op (foldF op l), some ⟨vc (ansM op (foldF op l)).1, 23, false, 0⟩, wb op, sb op (foldF op l), wb op, sb op (foldF op l), none] (heq46 hU hD) ?_
              refine WC.region ?_
              refine RG.op _ _ rfl rfl (o_move (.ptr _ _ _) rfl) ?_
              refine RG.op _ _ rfl rfl (OpX.d (x_call Ty.cal8 (ans_at op (foldF op l) hc hR.1 4 rfl) ⟨.inl rfl, trivial⟩) (HLe.refl _)) ?_
              refine RG.op _ _ rfl rfl (o_move (.tup _) rfl) ?_
              refine RG.op _ _ rfl rfl (o_extract rfl rfl) ?_
              refine RG.op _ _ rfl rfl (o_extract rfl rfl) ?_
              refine RG.op _ _ rfl rfl (o_alloc (z_of Ty.inf23) rfl) ?_
              refine RG.op _ _ rfl rfl (o_store (d := (.agg [_, _, _])) rfl rfl rfl rfl (sz_of Ty.inf23) (Nat.le_of_ble_eq_true rfl) rfl) ?_
              refine RG.op _ _ rfl rfl (o_assign (.v _) rfl) ?_
              refine RG.nil (h35_ _ ?_)
              refine WC.seq fun Fh36_ h36_ => ?_
              refine WC.reH [wb op, sb op (foldF op l), some ⟨vc (ansM op (foldF op l)).1, 23, false, 0⟩, wb op, sb op (foldF op l), wb op, sb op (foldF op l), none, some ⟨vc (ansM op (foldF op l)).1, 23, false, 0⟩] rfl ?_
              refine WC.region ?_
              refine RG.op _ _ rfl rfl (o_move (.ptr _ _ _) rfl) ?_
              refine RG.op _ _ rfl rfl (OpX.d (x_call Ty.cal8 (ans_at op (foldF op l) hc hR.1 6 rfl) ⟨.inl rfl, trivial⟩) (HLe.refl _)) ?_
              refine RG.op _ _ rfl rfl (o_move (.tup _) rfl) ?_
              refine RG.op _ _ rfl rfl (o_extract rfl rfl) ?_
              refine RG.op _ _ rfl rfl (o_extract rfl rfl) ?_
              refine RG.op _ _ rfl rfl (o_alloc (z_of Ty.inf23) rfl) ?_
              refine RG.op _ _ rfl rfl (o_store (d := (.agg [_, _, _])) rfl rfl rfl rfl (sz_of Ty.inf23) (Nat.le_of_ble_eq_true rfl) rfl) ?_
              refine RG.op _ _ rfl rfl (o_assign (.v _) rfl) ?_
              refine RG.nil (h36_ _ ?_)
              refine WC.seq fun Fh37_ h37_ => ?_
              refine WC.reH [wb op, sb op (foldF op l), some ⟨vc (ansM op (foldF op l)).1, 23, false, 0⟩, wb op, sb op (foldF op l), wb op, sb op (foldF op l), none, some ⟨vc (ansM op (foldF op l)).1, 23, false, 0⟩, some ⟨vc (ansM op (foldF op l)).1, 23, false, 0⟩] rfl ?_
              refine WC.region ?_
              refine RG.op _ _ rfl rfl (o_move (.v _) rfl) ?_
              refine RG.op _ _ rfl rfl (OpX.d (x_call Ty.cal9 (new_at op hc 11 rfl) ⟨.inl rfl, trivial⟩) (hle2 _ _ _)) ?_
              refine RG.op _ _ rfl rfl (o_move (.tup _) rfl) ?_
              refine RG.op _ _ rfl rfl (o_extract rfl rfl) ?_
              refine RG.op _ _ rfl rfl (o_extract rfl rfl) ?_
              refine RG.op _ _ rfl rfl (o_assign (.ptr _ _ _) rfl) ?_
              refine RG.op _ _ rfl rfl (o_assign (.v _) rfl) ?_
              refine RG.nil (h37_ _ ?_)
              refine WC.seq fun Fh38_ h38_ => ?_
              refine WC.seq fun Fh39_ h39_ => ?_
              refine WC.reH [wb op, sb op (foldF op l), some ⟨vc (ansM op (foldF op l)).1, 23, false, 0⟩, wb op, sb op (foldF op l), wb op, sb op (foldF op l), none, some ⟨vc (ansM op (foldF op l)).1, 23, false, 0⟩, some ⟨vc (ansM op (foldF op l)).1, 23, false, 0⟩, wb op, sb op (st0 op)] rfl ?_
              refine WC.region ?_
              refine RG.op _ _ rfl rfl (o_move (.rd _ _) rfl) ?_
              refine RG.op _ _ rfl rfl (o_len_rd rfl Try.underlying35) ?_
              refine RG.op _ _ rfl rfl (o_sub rfl rfl (by first | omega | exact ubyte _ | (simp only [LS, len_pvs] <;> omega)) (by first | omega | exact ubyte _ | (simp only [LS, len_pvs] <;> omega))) ?_
              refine RG.op _ _ rfl rfl (o_assign (.v _) rfl) ?_
              refine RG.nil (h39_ _ ?_)
              refine WC.block ?_
              refine WC.loopU [24, 149, 150, 151, 152, 153, 154, 155, 156, 157, 158, 159, 160, 161, 162, 163, 164] (fun (i : Nat) => [(24, I64 ((l.length : Int) - 1 - (i : Int)))]) (fun (i : Nat) => [(11, sb op (foldF op (l.reverse.take i)))]) (fun (i : Nat) => i ≤ l.length) (fun (i : Nat) => l.length - i) 0 (by first | omega | exact ubyte _ | (simp only [LS, len_pvs] <;> omega)) ?lpa40_ ?lpb41_
              case lpa40_ =>
                exact .mk' ⟨⟨congrArg I64 (by omega), .v _⟩, trivial⟩ (same_refl _ _) (rfl) (by repeat (first | exact trivial | refine And.intro (Nat.le_refl _) ?_ | refine And.intro trivial ?_ | refine And.intro (by show _ ≤ _; (first | omega | (simp only [LS, len_pvs] <;> omega))) ?_)) (by repeat (first | exact trivial | refine And.intro (one_ok (.own _ _ _ _ _ (Nat.le_refl _))) ?_ | refine And.intro (okp (by repeat (first | exact pu_pvs _ | exact adr_pu _ _ | exact pu_bytes _ | exact pu_nil | exact pu_vs rfl | exact pu_map (fun _ => .v _) _ | exact pu_vals _ | refine pu_app ?_ ?_ | refine pu_cons (by exact pu_of rfl) ?_))) ?_))
              case lpb41_ =>
                rintro i hI
                refine WC.seq fun Fh42_ h42_ => ?_
                refine WC.seq fun Fh43_ h43_ => ?_
                refine WC.region ?_
                refine RG.op _ _ rfl rfl (o_move (.v _) rfl) ?_
                refine RG.op _ _ rfl rfl (o_geI rfl rfl) ?_
                refine RG.nil (h43_ _ ?_)
                refine WC.cond _ rfl (fun c29 => ?_) (fun c29 => ?_)
                ·
                  have p29 := c29
                  try simp only [CN] at p29
                  have hli : l.length - 1 - i < l.length := by omega
                  have hlr : i < l.reverse.length := by rw [List.length_reverse]; omega
                  have hr1 := foldF_room (op := op) (l := l.reverse.take i) (by rw [List.length_take, List.length_reverse]; omega) (fun x hx => hi x (List.mem_reverse.1 (List.mem_of_mem_take hx)))
                  have hr2 := hr1.2.1
                  rw [List.length_take, List.length_reverse] at hr2
                  refine WC.skip (h42_ _ ?_)
                  refine WC.seq fun Fh44_ h44_ => ?_
                  refine WC.block ?_
                  refine WC.drawn2 (by kernel_rfl) ?_
                  refine PG.op _ rfl rfl rfl (fun _ _ => o_move (.ptr _ _ _) rfl) ?_
                  refine PG.op _ rfl rfl rfl (fun _ _ => o_move (.rd _ _) rfl) ?_
                  refine PG.op _ rfl rfl rfl (fun _ _ => o_move (.v _) rfl) ?_
                  refine PG.op _ rfl rfl rfl (fun _ _ => o_ixn_L (l := l) (f := pv) (l.length - 1 - i) pv_len rfl rfl rfl Try.underlying35 (sz_of Ty.inf42) (by omega) hli) ?_
                  refine PG.op _ rfl rfl rfl (fun _ _ => o_fld_adr rfl Try.underlying42 rfl (sz_of Ty.inf23) (by decide)) ?_
                  refine PG.op _ rfl rfl rfl (fun _ _ => o_load_adr_L (xs := [_, _, _]) rfl Try.underlying23 rfl (sz_of Ty.inf23) rfl) ?_
                  refine PG.op _ rfl rfl rfl (fun _ _ => o_move (.rd _ _) rfl) ?_
                  refine PG.op _ rfl rfl rfl (fun _ _ => o_move (.v _) rfl) ?_
                  refine PG.op _ rfl rfl rfl (fun _ _ => o_ixn_L (l := l) (f := pv) (l.length - 1 - i) pv_len rfl rfl rfl Try.underlying35 (sz_of Ty.inf42) (by omega) hli) ?_
                  refine PG.op _ rfl rfl rfl (fun _ _ => o_fld_adr rfl Try.underlying42 rfl (sz_of Ty.inf23) (by decide)) ?_
                  refine PG.op _ rfl rfl rfl (fun _ _ => o_load_adr_L (xs := [_, _, _]) rfl Try.underlying23 rfl (sz_of Ty.inf23) rfl) ?_
                  refine PG.opm _ _ rfl rfl rfl (OpX.d (x_call Ty.cal7 (FunM.frame (ds := [_, _, _]) [11] [_] [_] [] (feed_s op (foldF op (l.reverse.take i)) (l[l.length - 1 - i]'hli).1 (l[l.length - 1 - i]'hli).2 hc hr1.1 (by omega) (hi _ (List.getElem_mem hli))) (by decide) ⟨rfl, trivial⟩ ⟨.pure (by repeat (first | exact pu_pvs _ | exact adr_pu _ _ | exact pu_bytes _ | exact pu_nil | exact pu_vs rfl | exact pu_map (fun _ => .v _) _ | exact pu_vals _ | refine pu_app ?_ ?_ | refine pu_cons (by exact pu_of rfl) ?_)), trivial⟩ ⟨.ptr _ _ _ rfl, .pure _ (by exact pu_of rfl), .pure _ (by exact pu_of rfl), trivial⟩ rfl ⟨.pure (by repeat (first | exact pu_pvs _ | exact adr_pu _ _ | exact pu_bytes _ | exact pu_nil | exact pu_vs rfl | exact pu_map (fun _ => .v _) _ | exact pu_vals _ | refine pu_app ?_ ?_ | refine pu_cons (by exact pu_of rfl) ?_)), trivial⟩ (.pure _ (by exact pu_of rfl)) rfl) ⟨.inl rfl, .inl rfl, .inl rfl, trivial⟩) (VLe.le (by repeat (first | exact trivial | refine And.intro (Nat.le_refl _) ?_ | refine And.intro trivial ?_ | refine And.intro (by show _ ≤ _; (first | omega | (simp only [LS, len_pvs] <;> omega))) ?_)))) ?_
                  refine PG.nil ⟨by kernel_rfl, trivial, (h44_ _ ?_)⟩
                  refine WC.region ?_
                  refine RG.op _ _ rfl rfl (o_move (.v _) rfl) ?_
                  refine RG.op _ _ rfl rfl (o_sub rfl rfl (by first | omega | exact ubyte _ | (simp only [LS, len_pvs] <;> omega)) (by first | omega | exact ubyte _ | (simp only [LS, len_pvs] <;> omega))) ?_
                  refine RG.op _ _ rfl rfl (o_assign (.v _) rfl) ?_
                  refine RG.nil (Exists.intro (i + 1) ⟨by first | omega | (simp only [LS, len_pvs] <;> omega), by first | omega | (simp only [LS, len_pvs] <;> omega), ?_⟩)
                  exact .mk' ⟨⟨congrArg I64 (by omega), .v _⟩, trivial⟩ (by repeat (first | with_reducible exact same_refl _ _ | with_reducible refine same_updO (by with_unfolding_all exact rfl) ?_ | with_reducible refine same_updN ?_ | with_reducible refine same_updL (by with_unfolding_all exact rfl) ?_ | with_reducible refine same_forget (by with_unfolding_all exact rfl) ?_)) (heq11 (back_take hli hlr)) (by repeat (first | exact trivial | refine And.intro (Nat.le_refl _) ?_ | refine And.intro trivial ?_ | refine And.intro (by show _ ≤ _; (first | omega | (simp only [LS, len_pvs] <;> omega))) ?_)) (by repeat (first | exact trivial | refine And.intro (one_ok (.own _ _ _ _ _ (Nat.le_refl _))) ?_ | refine And.intro (okp (by repeat (first | exact pu_pvs _ | exact adr_pu _ _ | exact pu_bytes _ | exact pu_nil | exact pu_vs rfl | exact pu_map (fun _ => .v _) _ | exact pu_vals _ | refine pu_app ?_ ?_ | refine pu_cons (by exact pu_of rfl) ?_))) ?_))
                ·
                  have p29 := c29
                  try simp only [CN] at p29
                  have hie : l.reverse.length ≤ i := by rw [List.length_reverse]; omega
                  have hBk : foldF op (l.reverse.take i) = foldF op l := by rw [List.take_of_length_le hie, hPA.2.2]
                  refine WC.exit (h38_ _ ?_)
                  refine WC.seq fun Fh45_ h45_ => ?_
                  refine WC.reH [wb op, sb op (foldF op l), some ⟨vc (ansM op (foldF op l)).1, 23, false, 0⟩, wb op, sb op (foldF op l), wb op, sb op (foldF op l), none, some ⟨vc (ansM op (foldF op l)).1, 23, false, 0⟩, some ⟨vc (ansM op (foldF op l)).1, 23, false, 0⟩, wb op, sb op (foldF op l)] (heq11 hBk) ?_
                  refine WC.region ?_
                  refine RG.op _ _ rfl rfl (o_move (.ptr _ _ _) rfl) ?_
                  refine RG.op _ _ rfl rfl (OpX.d (x_call Ty.cal8 (ans_at op (foldF op l) hc hR.1 11 rfl) ⟨.inl rfl, trivial⟩) (HLe.refl _)) ?_
                  refine RG.op _ _ rfl rfl (o_move (.tup _) rfl) ?_
                  refine RG.op _ _ rfl rfl (o_extract rfl rfl) ?_
                  refine RG.op _ _ rfl rfl (o_extract rfl rfl) ?_
                  refine RG.op _ _ rfl rfl (o_alloc (z_of Ty.inf23) rfl) ?_
                  refine RG.op _ _ rfl rfl (o_store (d := (.agg [_, _, _])) rfl rfl rfl rfl (sz_of Ty.inf23) (Nat.le_of_ble_eq_true rfl) rfl) ?_
                  refine RG.op _ _ rfl rfl (o_assign (.v _) rfl) ?_
                  refine RG.nil (h45_ _ ?_)
                  refine WC.seq fun Fh46_ h46_ => ?_
                  refine WC.reH [wb op, sb op (foldF op l), some ⟨vc (ansM op (foldF op l)).1, 23, false, 0⟩, wb op, sb op (foldF op l), wb op, sb op (foldF op l), none, some ⟨vc (ansM op (foldF op l)).1, 23, false, 0⟩, some ⟨vc (ansM op (foldF op l)).1, 23, false, 0⟩, wb op, sb op (foldF op l), some ⟨vc (ansM op (foldF op l)).1, 23, false, 0⟩] rfl ?_
                  refine WC.region ?_
                  refine RG.op _ _ rfl rfl (o_load_ptr_L (xs := [_, _, _]) rfl Try.underlying23 rfl (sz_of Ty.inf23) rfl rfl rfl rfl) ?_
                  refine RG.op _ _ rfl rfl (o_load_ptr_L (xs := [_, _, _]) rfl Try.underlying23 rfl (sz_of Ty.inf23) rfl rfl rfl rfl) ?_
                  refine RG.op _ _ rfl rfl (o_eqV Ty.fs23 rfl rfl) ?_
                  refine RG.op _ _ rfl rfl (o_move (.v _) rfl) ?_
                  refine RG.opg1 _ _ _ _ _ rfl rfl rfl rfl rfl (fun hb => o_load_ptr_L (xs := [_, _, _]) rfl Try.underlying23 rfl (sz_of Ty.inf23) rfl rfl rfl rfl) ?_
                  refine RG.opg1 _ _ _ _ _ rfl rfl rfl rfl rfl (fun hb => o_load_ptr_L (xs := [_, _, _]) rfl Try.underlying23 rfl (sz_of Ty.inf23) rfl rfl rfl rfl) ?_
                  refine RG.opg1 _ _ _ _ _ rfl rfl rfl rfl rfl (fun hb => o_eqV Ty.fs23 (gdT hb) (gdT hb)) ?_
                  refine RG.op _ _ rfl rfl (o_and _ _ rfl rfl rfl) ?_
                  refine RG.op _ _ rfl rfl (o_move (.v _) rfl) ?_
                  refine RG.opg1 _ _ _ _ _ rfl rfl rfl rfl rfl (fun hb => o_load_ptr_L (xs := [_, _, _]) rfl Try.underlying23 rfl (sz_of Ty.inf23) rfl rfl rfl rfl) ?_
                  refine RG.opg1 _ _ _ _ _ rfl rfl rfl rfl rfl (fun hb => o_load_ptr_L (xs := [_, _, _]) rfl Try.underlying23 rfl (sz_of Ty.inf23) rfl rfl rfl rfl) ?_
                  refine RG.opg1 _ _ _ _ _ rfl rfl rfl rfl rfl (fun hb => o_eqV Ty.fs23 (gdT hb) (gdT hb)) ?_
                  refine RG.op _ _ rfl rfl (o_and _ _ rfl rfl rfl) ?_
                  refine RG.op _ _ rfl rfl (o_move (.v _) rfl) ?_
                  refine RG.opg1 _ _ _ _ _ rfl rfl rfl rfl rfl (fun hb => o_move (.v _) rfl) ?_
                  refine RG.opg1 _ _ _ _ _ rfl rfl rfl rfl rfl (fun hb => o_move (.v _) rfl) ?_
                  refine RG.opg1 _ _ _ _ _ rfl rfl rfl rfl rfl (fun hb => o_eqI (gdT hb) (gdT hb)) ?_
                  refine RG.op _ _ rfl rfl (o_and _ _ rfl rfl rfl) ?_
                  refine RG.op _ _ rfl rfl (o_move (.v _) rfl) ?_
                  refine RG.opg1 _ _ _ _ _ rfl rfl rfl rfl rfl (fun hb => o_move (.v _) rfl) ?_
                  refine RG.opg1 _ _ _ _ _ rfl rfl rfl rfl rfl (fun hb => o_move (.v _) rfl) ?_
                  refine RG.opg1 _ _ _ _ _ rfl rfl rfl rfl rfl (fun hb => o_eqI (gdT hb) (gdT hb)) ?_
                  refine RG.op _ _ rfl rfl (o_and _ _ rfl rfl rfl) ?_
                  refine RG.op _ _ rfl rfl (o_move (.v _) rfl) ?_
                  refine RG.opg1 _ _ _ _ _ rfl rfl rfl rfl rfl (fun hb => o_move (.v _) rfl) ?_
                  refine RG.opg1 _ _ _ _ _ rfl rfl rfl rfl rfl (fun hb => o_move (.v _) rfl) ?_
                  refine RG.opg1 _ _ _ _ _ rfl rfl rfl rfl rfl (fun hb => o_eqI (gdT hb) (gdT hb)) ?_
                  refine RG.op _ _ rfl rfl (o_and _ _ rfl rfl rfl) ?_
                  refine RG.op _ _ rfl rfl (o_move (.v _) rfl) ?_
                  refine RG.opg1 _ _ _ _ _ rfl rfl rfl rfl rfl (fun hb => o_call Ty.cal12 (wakes_c) trivial (by exact pua rfl)) ?_
                  refine RG.op _ _ rfl rfl (o_and _ _ rfl rfl rfl) ?_
                  refine RG.op _ _ rfl rfl (o_assign (.v _) rfl) ?_
                  refine RG.nil (h46_ _ ?_)
                  refine WC.ret ?_
                  exact Ends.r1 rfl (.tmp _ (.v _) rfl) (.v _) (congrArg Bo (by simp))
theorem cutsR0 : Rds Try.prog 36 (fun l : List Int => (∀ x ∈ l, -9223372036854775808 ≤ x ∧ x ≤ 9223372036854775807) ∧ l.length ≤ 9223372036854775807) (fun l => [D.rd l.length (l.flatMap fun n => [I64 n])]) := by exact Rds.slice Try.underlying36 rfl (Rds.i64 Try.underlying3)
theorem cutsR : Rds Try.prog 36 (fun l : List Int => (∀ x ∈ l, -9223372036854775808 ≤ x ∧ x ≤ 9223372036854775807) ∧ l.length ≤ 9223372036854775807) (fun l => [rdI l]) := by
  have e : (fun l : List Int => [D.rd l.length (l.flatMap fun n => [I64 n])]) = fun l => [rdI l] := by
    funext l
    rw [show (l.flatMap fun n => [I64 n]) = l.map I64 by induction l with | nil => rfl | cons a l ih => simp [ih]]
  rw [← e]; exact @cutsR0
theorem parts_r (op : UInt8) (_ : True) (l : List Pr) (hl : (∀ p ∈ l, okV p.1 ∧ okV p.2) ∧ l.length ≤ 9223372036854775807) (c : List Int) (hc : (∀ x ∈ c, -9223372036854775808 ≤ x ∧ x ≤ 9223372036854775807) ∧ c.length ≤ 9223372036854775807) : Fun Try.prog 4 [B8 op, rdQ l, rdI c] (· = Bo true) := parts_c op l hl c hc.2
end Go.Proofs.Ytpacdeiaimfiaaa
