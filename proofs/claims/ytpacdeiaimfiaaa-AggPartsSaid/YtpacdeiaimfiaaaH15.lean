/-
  Layer agg: AggParts. No condition.
-/
import Derived.Test.YtpacdeiaimfiaaaO2
import Derived.Test.YtpacdeiaimfiaaaDlU
set_option linter.unusedSimpArgs false
set_option linter.unusedVariables false
namespace Go.Proofs.Ytpacdeiaimfiaaa
open Go.RowKit Go.DL
set_option maxRecDepth 8000
open CMod

set_option maxRecDepth 20000 in
theorem pairR : Rds Try.prog 42 (fun p : Pr => okV p.1 ∧ okV p.2) pv := by
  refine Rds.map (α := Val × Val × Unit) (ok := fun p => okV p.1 ∧ (okV p.2.1 ∧ True)) (f := fun p => vc p.1 ++ (vc p.2.1 ++ [])) ?_ ?_
  · refine Rds.struct (tot := 3 + (3 + 0)) Try.underlying42 rfl ?_
    refine RdF.cons (P := Try.prog) (off := 0) (sz := 3) (tot := 3 + 0) (ok := okV) (f := vc) (ok' := fun p : Val × Unit => okV p.1 ∧ True) (g := fun p => vc p.1 ++ []) rfl rfl ?_ ?_
    · exact valR
    refine RdF.cons (P := Try.prog) (sz := 3) (tot := 0) (ok := okV) (f := vc) (ok' := fun _ : Unit => True) (g := fun _ => []) rfl rfl ?_ ?_
    · exact valR
    · exact RdF.nil _
  · rintro ⟨a, b, _⟩ ⟨h1, h2, _⟩
    exact ⟨(a, b), ⟨h1, h2⟩, by simp [pv]⟩
set_option maxRecDepth 20000 in
theorem pairsR : Rds Try.prog 35 (fun l : List Pr => (∀ p ∈ l, okV p.1 ∧ okV p.2) ∧ l.length ≤ 9223372036854775807) (fun l => [rdQ l]) := by exact Rds.slice Try.underlying35 rfl pairR
theorem okP {l : List Pr} (hl : ∀ p ∈ l, okV p.1 ∧ okV p.2) : (∀ p ∈ l, inIv p.1) ∧ ∀ p ∈ l, p.1.t.length ≤ 9223372036854775807 ∧ p.2.t.length ≤ 9223372036854775807 :=
  ⟨fun p hp => ⟨(hl p hp).1.1, (hl p hp).1.2.1⟩, fun p hp => ⟨(hl p hp).1.2.2, (hl p hp).2.2.2⟩⟩
theorem great_not {l : List Pr} (h : greatM l = false) : l.length ≤ 300 := by
  unfold greatM at h
  rw [Bool.or_eq_false_iff] at h
  have := of_decide_eq_false h.1
  omega
abbrev stA (op : UInt8) (s : St) : List D := stc s (arN op) (fN1 op) (fN2 op) (fN3 op)
theorem frz_st {H : Heap} {id : Nat} {s : St} {ar : Int} {f1 f2 f3 : Nat} (hb : H[id]? = some (stb s ar f1 f2 f3)) : Frz H (.ptr id 0 0) (.adr (stc s ar f1 f2 f3)) := by
  refine .ptr id 0 ⟨stc s ar f1 f2 f3, 58, false, 0⟩ (stc s ar f1 f2 f3) hb (by simp) fun j c d hc hd => ?_
  rw [Nat.zero_add] at hc
  have e := Option.some.inj (hc.symm.trans hd)
  subst e
  have h := List.all_eq_true.1 (show (stc s ar f1 f2 f3).all isV = true from rfl) c (List.mem_of_getElem? hc)
  cases c with
  | v x => exact .v x
  | _ => cases h
set_option maxRecDepth 20000 in
set_option maxHeartbeats 4000000 in
theorem fedA_c (op : UInt8) (l : List Pr) (hc : aggB op = true) (hl : l.length ≤ 1099511627776) (ha : ∀ p ∈ l, inIv p.1) : Fun Try.prog 15 [B8 op, rdQ l] (· = .adr (stA op (foldF op l))) := by
  refine Fun.of Try.func15 rfl (Nat.le_of_ble_eq_true rfl) fun C => ?_
  refine WC.seq fun Fh1_ h1_ => ?_
  refine WC.region ?_
  refine RG.op _ _ rfl rfl (o_assign (.v _) rfl) ?_
  refine RG.nil (h1_ _ ?_)
  refine WC.seq fun Fh2_ h2_ => ?_
  refine WC.region ?_
  refine RG.op _ _ rfl rfl (o_move (.v _) rfl) ?_
  refine RG.op _ _ rfl rfl (OpX.d (x_call Ty.cal9 (new_at op hc 1 rfl) ⟨.inl rfl, trivial⟩) (hle2 _ _ _)) ?_
  refine RG.op _ _ rfl rfl (o_move (.tup _) rfl) ?_
  refine RG.op _ _ rfl rfl (o_extract rfl rfl) ?_
  refine RG.op _ _ rfl rfl (o_extract rfl rfl) ?_
  refine RG.op _ _ rfl rfl (o_assign (.ptr _ _ _) rfl) ?_
  refine RG.op _ _ rfl rfl (o_assign (.v _) rfl) ?_
  refine RG.nil (h2_ _ ?_)
  refine WC.seq fun Fh3_ h3_ => ?_
  refine WC.seq fun Fh4_ h4_ => ?_
  refine WC.region ?_
  refine RG.op _ _ rfl rfl (o_assign (.v _) rfl) ?_
  refine RG.nil (h4_ _ ?_)
  refine WC.block ?_
  refine WC.loopU [7, 13, 14, 15, 16, 17, 18, 19, 20, 21, 22, 23, 24, 25, 26, 27, 28, 29, 30] (fun (k : Nat) => [(7, I64 ((k : Nat) : Int))]) (fun (k : Nat) => [(0, wb op), (1, sb op (foldF op (l.take k)))]) (fun (k : Nat) => k ≤ l.length) (fun (k : Nat) => l.length - k) 0 (by first | omega | exact ubyte _ | (simp only [LS, len_pvs] <;> omega)) ?lpa5_ ?lpb6_
  case lpa5_ =>
    exact .mk' ⟨⟨rfl, .v _⟩, trivial⟩ (same_refl _ _) (rfl) (by repeat (first | exact trivial | refine And.intro (Nat.le_refl _) ?_ | refine And.intro trivial ?_ | refine And.intro (by show _ ≤ _; (first | omega | (simp only [LS, len_pvs] <;> omega))) ?_)) (by repeat (first | exact trivial | refine And.intro (one_ok (.own _ _ _ _ _ (Nat.le_refl _))) ?_ | refine And.intro (okp (by repeat (first | exact pu_pvs _ | exact pu_bytes _ | exact pu_nil | exact pu_vs rfl | exact pu_map (fun _ => .v _) _ | exact pu_vals _ | refine pu_app ?_ ?_ | refine pu_cons (by exact pu_of rfl) ?_))) ?_))
  case lpb6_ =>
    rintro k hI
    refine WC.seq fun Fh7_ h7_ => ?_
    refine WC.seq fun Fh8_ h8_ => ?_
    refine WC.region ?_
    refine RG.op _ _ rfl rfl (o_move (.v _) rfl) ?_
    refine RG.op _ _ rfl rfl (o_move (.rd _ _) rfl) ?_
    refine RG.op _ _ rfl rfl (o_len_rd rfl Try.underlying35) ?_
    refine RG.op _ _ rfl rfl (o_ltI rfl rfl) ?_
    refine RG.nil (h8_ _ ?_)
    refine WC.cond _ rfl (fun c3 => ?_) (fun c3 => ?_)
    ·
      have p3 := c3
      try simp only [CN] at p3
      have hkl : k < l.length := by omega
      have hr1 := foldF_room (op := op) (l := l.take k) (by rw [List.length_take]; omega) (fun p hp => ha p (List.mem_of_mem_take hp))
      have hr2 := hr1.2.1
      rw [List.length_take] at hr2
      refine WC.skip (h7_ _ ?_)
      refine WC.seq fun Fh9_ h9_ => ?_
      refine WC.block ?_
      refine WC.drawn2 (by kernel_rfl) ?_
      refine PG.op _ rfl rfl rfl (fun _ _ => o_move (.ptr _ _ _) rfl) ?_
      refine PG.op _ rfl rfl rfl (fun _ _ => o_move (.rd _ _) rfl) ?_
      refine PG.op _ rfl rfl rfl (fun _ _ => o_move (.v _) rfl) ?_
      refine PG.op _ rfl rfl rfl (fun _ _ => o_ixn_L (l := l) (f := pv) k pv_len rfl rfl rfl Try.underlying35 (sz_of Ty.inf42) rfl hkl) ?_
      refine PG.op _ rfl rfl rfl (fun _ _ => o_fld_adr rfl Try.underlying42 rfl (sz_of Ty.inf23) (by decide)) ?_
      refine PG.op _ rfl rfl rfl (fun _ _ => o_load_adr_L (xs := [_, _, _]) rfl Try.underlying23 rfl (sz_of Ty.inf23) rfl) ?_
      refine PG.op _ rfl rfl rfl (fun _ _ => o_move (.rd _ _) rfl) ?_
      refine PG.op _ rfl rfl rfl (fun _ _ => o_move (.v _) rfl) ?_
      refine PG.op _ rfl rfl rfl (fun _ _ => o_ixn_L (l := l) (f := pv) k pv_len rfl rfl rfl Try.underlying35 (sz_of Ty.inf42) rfl hkl) ?_
      refine PG.op _ rfl rfl rfl (fun _ _ => o_fld_adr rfl Try.underlying42 rfl (sz_of Ty.inf23) (by decide)) ?_
      refine PG.op _ rfl rfl rfl (fun _ _ => o_load_adr_L (xs := [_, _, _]) rfl Try.underlying23 rfl (sz_of Ty.inf23) rfl) ?_
      refine PG.opm _ _ rfl rfl rfl (OpX.d (x_call Ty.cal7 (FunM.frame (ds := [_, _, _]) [1] [_] [_] [] (feed_s op (foldF op (l.take k)) (l[k]'hkl).1 (l[k]'hkl).2 hc hr1.1 (by omega) (ha _ (List.getElem_mem hkl))) (by decide) ⟨rfl, trivial⟩ ⟨.pure (by repeat (first | exact pu_pvs _ | exact pu_bytes _ | exact pu_nil | exact pu_vs rfl | exact pu_map (fun _ => .v _) _ | exact pu_vals _ | refine pu_app ?_ ?_ | refine pu_cons (by exact pu_of rfl) ?_)), trivial⟩ ⟨.ptr _ _ _ rfl, .pure _ (by exact pu_of rfl), .pure _ (by exact pu_of rfl), trivial⟩ rfl ⟨.pure (by repeat (first | exact pu_pvs _ | exact pu_bytes _ | exact pu_nil | exact pu_vs rfl | exact pu_map (fun _ => .v _) _ | exact pu_vals _ | refine pu_app ?_ ?_ | refine pu_cons (by exact pu_of rfl) ?_)), trivial⟩ (.pure _ (by exact pu_of rfl)) rfl) ⟨.inl rfl, .inl rfl, .inl rfl, trivial⟩) (VLe.le (by repeat (first | exact trivial | refine And.intro (Nat.le_refl _) ?_ | refine And.intro trivial ?_ | refine And.intro (by show _ ≤ _; (first | omega | (simp only [LS, len_pvs] <;> omega))) ?_)))) ?_
      refine PG.nil ⟨by kernel_rfl, trivial, (h9_ _ ?_)⟩
      refine WC.region ?_
      refine RG.op _ _ rfl rfl (o_move (.v _) rfl) ?_
      refine RG.op _ _ rfl rfl (o_add rfl rfl (by first | omega | exact ubyte _ | (simp only [LS, len_pvs] <;> omega)) (by first | omega | exact ubyte _ | (simp only [LS, len_pvs] <;> omega))) ?_
      refine RG.op _ _ rfl rfl (o_assign (.v _) rfl) ?_
      refine RG.nil (Exists.intro (k + 1) ⟨by first | omega | (simp only [LS, len_pvs] <;> omega), by first | omega | (simp only [LS, len_pvs] <;> omega), ?_⟩)
      exact .mk' ⟨⟨rfl, .v _⟩, trivial⟩ (by repeat (first | with_reducible exact same_refl _ _ | with_reducible refine same_updO (by with_unfolding_all exact rfl) ?_ | with_reducible refine same_updN ?_ | with_reducible refine same_updL (by with_unfolding_all exact rfl) ?_ | with_reducible refine same_forget (by with_unfolding_all exact rfl) ?_)) (congrArg (fun s => [wb op, sb op s]) (foldF_take hkl).symm) (by repeat (first | exact trivial | refine And.intro (Nat.le_refl _) ?_ | refine And.intro trivial ?_ | refine And.intro (by show _ ≤ _; (first | omega | (simp only [LS, len_pvs] <;> omega))) ?_)) (by repeat (first | exact trivial | refine And.intro (one_ok (.own _ _ _ _ _ (Nat.le_refl _))) ?_ | refine And.intro (okp (by repeat (first | exact pu_pvs _ | exact pu_bytes _ | exact pu_nil | exact pu_vs rfl | exact pu_map (fun _ => .v _) _ | exact pu_vals _ | refine pu_app ?_ ?_ | refine pu_cons (by exact pu_of rfl) ?_))) ?_))
    ·
      have p3 := c3
      try simp only [CN] at p3
      refine WC.exit (h3_ _ ?_)
      refine WC.seq fun Fh10_ h10_ => ?_
      have hke : k = l.length := by omega
      refine WC.reH [wb op, sb op (foldF op l)] (congrArg (fun q => [wb op, sb op (foldF op q)]) (List.take_of_length_le (by omega))) ?_
      refine WC.region ?_
      refine RG.op _ _ rfl rfl (o_move (.ptr _ _ _) rfl) ?_
      refine RG.op _ _ rfl rfl (o_assign (.ptr _ _ _) rfl) ?_
      refine RG.nil (h10_ _ ?_)
      refine WC.ret ?_
      exact Ends.r1 rfl (.tmp _ (.ptr _ _ _) rfl) (frz_st rfl) (rfl)
end Go.Proofs.Ytpacdeiaimfiaaa
