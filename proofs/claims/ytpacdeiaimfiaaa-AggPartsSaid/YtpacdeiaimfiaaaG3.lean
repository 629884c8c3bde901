/-
  Layer agg: what a state counts, and what it keeps. No condition but a state's size.
-/
import Derived.Test.YtpacdeiaimfiaaaG2
import Derived.Test.YtpacdeiaimfiaaaDlU
set_option linter.unusedSimpArgs false
set_option linter.unusedVariables false
namespace Go.Proofs.Ytpacdeiaimfiaaa
open Go.RowKit Go.DL

def z0 : Val := ⟨0, 0, []⟩

/-- A state: what was counted, the sum, whether one is kept, and which. -/
structure St where
  op : UInt8
  n : Nat
  z : Int
  has : Bool
  best : Val
  by' : Val
abbrev fnD (n : Nat) : D := .v (.func (.func n) #[] #[])
/-- Its cells; w: what is done with it. -/
abbrev stc (s : St) (ar : Int) (f1 f2 f3 : Nat) : List D := [B8 s.op, N64 s.n, N64 (hiW s.z), N64 (loW s.z), Bo false, Bo s.has, B8 s.best.k, I64 s.best.i, S s.best.t, B8 s.by'.k, I64 s.by'.i, S s.by'.t, I64 ar, fnD f1, fnD f2, fnD f3]
abbrev stb (s : St) (ar : Int) (f1 f2 f3 : Nat) : Option Blk := some ⟨stc s ar f1 f2 f3, 58, false, 0⟩
/-- A state is not beyond its room. -/
def Room (s : St) : Prop := s.n ≤ 1099511627776 ∧ -(s.n * 9223372036854775808 : Int) ≤ s.z ∧ s.z ≤ s.n * 9223372036854775807
def moreM (c : Nat) (x : Int) (s : St) : St := { s with n := s.n + c, z := s.z + x }
def pickM (d : Int) (a b : Val) (s : St) : St := if s.has = false ∨ (if cmpV b s.by' = 0 then cmpV a s.best else cmpV b s.by') = d then { s with has := true, best := a, by' := b } else s
def pickC (d : Int) (a b : Val) (s : St) : Prop := s.has = false ∨ (if cmpV b s.by' = 0 then cmpV a s.best else cmpV b s.by') = d
instance {d a b s} : Decidable (pickC d a b s) := by unfold pickC; infer_instance
theorem pick_yes {d : Int} {a b : Val} {s : St} (h : s.has = false ∨ (if cmpV b s.by' = 0 then cmpV a s.best else cmpV b s.by') = d) : pickM d a b s = { s with has := true, best := a, by' := b } := if_pos h
theorem pick_no {d : Int} {a b : Val} {s : St} (h : ¬ (s.has = false ∨ (if cmpV b s.by' = 0 then cmpV a s.best else cmpV b s.by') = d)) : pickM d a b s = s := if_neg h
theorem stb_eq {s s' : St} {ar : Int} {f1 f2 f3 : Nat} (h : s = s') : stb s ar f1 f2 f3 = stb s' ar f1 f2 f3 := by rw [h]
set_option maxHeartbeats 4000000 in
theorem more_c (s : St) (ar : Int) (f1 f2 f3 : Nat) (c : Nat) (x : Int) (hr : Room s) (hr' : Room (moreM c x s)) (hx : -B104 ≤ x ∧ x ≤ B104) : FunM Try.prog 42 [.ptr 0 0 0, N64 c, .agg (WD x)] [stb s ar f1 f2 f3] (fun o H' => o = .ret (.tup []) ∧ H' = [stb (moreM c x s) ar f1 f2 f3]) := by
  obtain ⟨r1, r2, r3⟩ := hr
  obtain ⟨q1, q2, q3⟩ := hr'
  simp only [moreM] at q1 q2 q3
  have z1 : -B104 ≤ s.z ∧ s.z ≤ B104 := by unfold B104; omega
  have z2 : -B104 ≤ s.z + x ∧ s.z + x ≤ B104 := by unfold B104; omega
  refine FunM.of Try.func42 rfl (Nat.le_of_ble_eq_true rfl) fun C => ?_
  refine WC.seq fun Fh1_ h1_ => ?_
  refine WC.region ?_
  refine RG.op _ _ rfl rfl (o_box (d := .agg [_, _]) rfl rfl) ?_
  refine RG.nil (h1_ _ ?_)
  refine WC.seq fun Fh2_ h2_ => ?_
  refine WC.region ?_
  refine RG.op _ _ rfl rfl (o_move (.ptr _ _ _) rfl) ?_
  refine RG.op _ _ rfl rfl (o_nilP rfl) ?_
  refine RG.op _ _ rfl rfl (o_fld_ptr rfl Try.underlying58 rfl (sz_of Ty.inf54) (by decide)) ?_
  refine RG.op _ _ rfl rfl (o_load_ptr rfl Try.underlying54 rfl rfl rfl rfl) ?_
  refine RG.op _ _ rfl rfl (o_move (.v _) rfl) ?_
  refine RG.op _ _ rfl rfl (o_add64E (c := 0) (s := s.n + c) (k := 0) rfl rfl rfl (by omega) (by omega) (by decide) (by omega) (by omega)) ?_
  refine RG.op _ _ rfl rfl (o_move (.tup _) rfl) ?_
  refine RG.op _ _ rfl rfl (o_extract rfl rfl) ?_
  refine RG.op _ _ rfl rfl (o_extract rfl rfl) ?_
  refine RG.op _ _ rfl rfl (o_assign (.v _) rfl) ?_
  refine RG.op _ _ rfl rfl (o_assign (.v _) rfl) ?_
  refine RG.nil (h2_ _ ?_)
  refine WC.seq fun Fh3_ h3_ => ?_
  refine WC.drawnB [0, 1] (by kernel_rfl) ?_
  refine PG.op _ rfl rfl rfl (fun _ hH => o_move (.ptr _ _ _) rfl) ?_
  refine PG.op _ rfl rfl rfl (fun _ hH => o_nilP rfl) ?_
  refine PG.op _ rfl rfl rfl (fun _ hH => o_fld_ptr rfl Try.underlying58 rfl (sz_of Ty.inf56) (by decide)) ?_
  refine PG.op _ rfl rfl rfl (fun _ hH => o_load_ptr_L (xs := [_, _]) rfl Try.underlying56 rfl (sz_of Ty.inf56) (keepB hH rfl rfl) rfl rfl rfl) ?_
  refine PG.op _ rfl rfl rfl (fun _ hH => o_load_ptr_L (xs := [_, _]) rfl Try.underlying56 rfl (sz_of Ty.inf56) (keepB hH rfl rfl) rfl rfl rfl) ?_
  refine PG.op _ rfl rfl rfl (fun _ hH => o_call (ds := [.agg (WD s.z), .agg (WD x)]) Ty.cal49 (plus_c s.z x z1 hx z2) ⟨.inl rfl, .inl rfl, trivial⟩ (by exact pua rfl)) ?_
  refine PG.op _ rfl rfl rfl (fun _ hH => o_move (.tup _) rfl) ?_
  refine PG.op _ rfl rfl rfl (fun _ hH => o_extract rfl rfl) ?_
  refine PG.op _ rfl rfl rfl (fun _ hH => o_extract rfl rfl) ?_
  refine PG.opm _ _ rfl rfl rfl (o_alloc (z_of Ty.inf56) rfl) ?_
  refine PG.opm _ _ rfl rfl rfl (o_store (d := (.agg [_, _])) rfl rfl rfl rfl (sz_of Ty.inf56) (Nat.le_of_ble_eq_true rfl) rfl) ?_
  refine PG.op _ rfl rfl rfl (fun _ hH => o_assign (.v _) rfl) ?_
  refine PG.nil ⟨by kernel_rfl, List.forall_mem_cons.2 ⟨noHs rfl, List.forall_mem_cons.2 ⟨noHs rfl, List.forall_mem_cons.2 ⟨noHs rfl, List.forall_mem_cons.2 ⟨noHs rfl, List.forall_mem_cons.2 ⟨noHs rfl, List.forall_mem_cons.2 ⟨noHs rfl, List.forall_mem_cons.2 ⟨noHs rfl, List.forall_mem_cons.2 ⟨noHs rfl, List.forall_mem_cons.2 ⟨noHs rfl, List.forall_mem_cons.2 ⟨fun _ => rfl, List.forall_mem_cons.2 ⟨fun _ => rfl, List.forall_mem_cons.2 ⟨noHs rfl, List.forall_mem_nil _⟩⟩⟩⟩⟩⟩⟩⟩⟩⟩⟩⟩, (h3_ _ ?_)⟩
  refine WC.seq fun Fh4_ h4_ => ?_
  refine WC.drawnB [2] (by kernel_rfl) ?_
  refine PG.op _ rfl rfl rfl (fun _ hH => o_move (.ptr _ _ _) rfl) ?_
  refine PG.op _ rfl rfl rfl (fun _ hH => o_move (.ptr _ _ _) rfl) ?_
  refine PG.op _ rfl rfl rfl (fun _ hH => o_move (.v _) rfl) ?_
  refine PG.op _ rfl rfl rfl (fun _ hH => o_load_ptr_L (xs := [_, _]) rfl Try.underlying56 rfl (sz_of Ty.inf56) (keepB hH rfl rfl) rfl rfl rfl) ?_
  refine PG.op _ rfl rfl rfl (fun _ hH => o_nilP rfl) ?_
  refine PG.op _ rfl rfl rfl (fun _ hH => o_fld_ptr rfl Try.underlying58 rfl (sz_of Ty.inf54) (by decide)) ?_
  refine PG.opm _ _ rfl rfl rfl (o_store (d := (.v _)) rfl rfl rfl rfl (sz_of Ty.inf54) (Nat.le_of_ble_eq_true rfl) rfl) ?_
  refine PG.op _ rfl rfl rfl (fun _ hH => o_nilP rfl) ?_
  refine PG.op _ rfl rfl rfl (fun _ hH => o_fld_ptr rfl Try.underlying58 rfl (sz_of Ty.inf56) (by decide)) ?_
  refine PG.opm _ _ rfl rfl rfl (o_store (d := (.agg [_, _])) rfl rfl rfl rfl (sz_of Ty.inf56) (Nat.le_of_ble_eq_true rfl) rfl) ?_
  refine PG.nil ⟨by kernel_rfl, List.forall_mem_cons.2 ⟨noHs rfl, List.forall_mem_cons.2 ⟨noHs rfl, List.forall_mem_cons.2 ⟨noHs rfl, List.forall_mem_cons.2 ⟨noHs rfl, List.forall_mem_cons.2 ⟨noHs rfl, List.forall_mem_cons.2 ⟨noHs rfl, List.forall_mem_cons.2 ⟨fun _ => rfl, List.forall_mem_cons.2 ⟨noHs rfl, List.forall_mem_cons.2 ⟨noHs rfl, List.forall_mem_cons.2 ⟨fun _ => rfl, List.forall_mem_nil _⟩⟩⟩⟩⟩⟩⟩⟩⟩⟩, (h4_ _ ?_)⟩
  refine WC.region ?_
  refine RG.op _ _ rfl rfl (o_move (.ptr _ _ _) rfl) ?_
  refine RG.op _ _ rfl rfl (o_move (.ptr _ _ _) rfl) ?_
  refine RG.op _ _ rfl rfl (o_nilP rfl) ?_
  refine RG.op _ _ rfl rfl (o_fld_ptr rfl Try.underlying58 rfl (sz_of Ty.inf4) (by decide)) ?_
  refine RG.op _ _ rfl rfl (o_load_ptr rfl Try.underlying4 rfl rfl rfl rfl) ?_
  refine RG.op _ _ rfl rfl (o_move (.v _) rfl) ?_
  refine RG.opg1 _ _ _ _ _ rfl rfl rfl rfl rfl (fun hb => o_move (.v _) rfl) ?_
  refine RG.opg1 _ _ _ _ _ rfl rfl rfl rfl rfl (fun hb => o_gtI (gdT hb) rfl) ?_
  refine RG.op _ _ rfl rfl (o_or _ _ rfl rfl rfl) ?_
  refine RG.op _ _ rfl rfl (o_move (.v _) rfl) ?_
  refine RG.opg1 _ _ _ _ _ rfl rfl rfl rfl rfl (fun hb => o_move (.v _) rfl) ?_
  refine RG.opg1 _ _ _ _ _ rfl rfl rfl rfl rfl (fun hb => o_not (gdT hb)) ?_
  refine RG.op _ _ rfl rfl (o_or _ _ rfl rfl rfl) ?_
  refine RG.op _ _ rfl rfl (o_nilP rfl) ?_
  refine RG.op _ _ rfl rfl (o_fld_ptr rfl Try.underlying58 rfl (sz_of Ty.inf4) (by decide)) ?_
  refine RG.op _ _ rfl rfl (o_store (d := (.v _)) rfl rfl rfl rfl (sz_of Ty.inf4) (Nat.le_of_ble_eq_true rfl) rfl) ?_
  refine RG.nil ?_
  first | refine endM.mkN 1 [_] rfl rfl (by repeat (first | exact trivial | refine And.intro (one_ok (.own _ _ _ _ _ (Nat.le_refl _))) ?_ | refine And.intro (okp (by repeat (first | exact pu_bytes _ | exact pu_nil | exact pu_vs rfl | exact pu_map (fun _ => .v _) _ | exact pu_vals _ | refine pu_app ?_ ?_ | refine pu_cons (by exact pu_of rfl) ?_))) ?_)) ?_ | (simp only [thenQ, blkQ, noGo, if_true]; refine endM.mkN 1 [_] rfl rfl (by repeat (first | exact trivial | refine And.intro (one_ok (.own _ _ _ _ _ (Nat.le_refl _))) ?_ | refine And.intro (okp (by repeat (first | exact pu_bytes _ | exact pu_nil | exact pu_vs rfl | exact pu_map (fun _ => .v _) _ | exact pu_vals _ | refine pu_app ?_ ?_ | refine pu_cons (by exact pu_of rfl) ?_))) ?_)) ?_)
  exact EndsM.r0 rfl   (⟨rfl, rfl⟩)
set_option maxHeartbeats 4000000 in
theorem pick_c (s : St) (ar : Int) (f1 f2 f3 : Nat) (d : Int) (a b : Val) : FunM Try.prog 45 [.ptr 0 0 0, VD a, VD b, I64 d] [stb s ar f1 f2 f3] (fun o H' => o = .ret (.tup []) ∧ H' = [stb (pickM d a b s) ar f1 f2 f3]) := by
  refine FunM.of Try.func45 rfl (Nat.le_of_ble_eq_true rfl) fun C => ?_
  refine WC.seq fun Fh1_ h1_ => ?_
  refine WC.region ?_
  refine RG.op _ _ rfl rfl (o_box (d := .agg [_, _, _]) rfl rfl) ?_
  refine RG.op _ _ rfl rfl (o_box (d := .agg [_, _, _]) rfl rfl) ?_
  refine RG.nil (h1_ _ ?_)
  refine WC.seq fun Fh2_ h2_ => ?_
  refine WC.drawn1 (by kernel_rfl) ?_
  refine PG.op _ rfl rfl rfl (by rintro _ rfl; exact o_load_ptr_L (xs := [_, _, _]) rfl Try.underlying23 rfl (sz_of Ty.inf23) rfl rfl rfl rfl) ?_
  refine PG.op _ rfl rfl rfl (by rintro _ rfl; exact o_move (.ptr _ _ _) rfl) ?_
  refine PG.op _ rfl rfl rfl (by rintro _ rfl; exact o_nilP rfl) ?_
  refine PG.op _ rfl rfl rfl (by rintro _ rfl; exact o_fld_ptr rfl Try.underlying58 rfl (sz_of Ty.inf23) (by decide)) ?_
  refine PG.op _ rfl rfl rfl (by rintro _ rfl; exact o_load_ptr_L (xs := [_, _, _]) rfl Try.underlying23 rfl (sz_of Ty.inf23) rfl rfl rfl rfl) ?_
  refine PG.op _ rfl rfl rfl (by rintro _ rfl; exact o_call Ty.cal17 (cmpV_c _ _) ⟨.inl rfl, .inl rfl, trivial⟩ (by exact pua rfl)) ?_
  refine PG.op _ rfl rfl rfl (by rintro _ rfl; exact o_assign (.v _) rfl) ?_
  refine PG.nil ⟨by kernel_rfl, rfl, (h2_ _ ?_)⟩
  refine WC.seq fun Fh3_ h3_ => ?_
  refine WC.seq fun Fh4_ h4_ => ?_
  refine WC.region ?_
  refine RG.op _ _ rfl rfl (o_move (.v _) rfl) ?_
  refine RG.op _ _ rfl rfl (o_eqI rfl rfl) ?_
  refine RG.nil (h4_ _ ?_)
  refine WC.cond _ rfl (fun c2 => ?_) (fun c2 => ?_)
  ·
    have p2 := c2
    try simp only [CN] at p2
    refine WC.drawn1 (by kernel_rfl) ?_
    refine PG.op _ rfl rfl rfl (by rintro _ rfl; exact o_load_ptr_L (xs := [_, _, _]) rfl Try.underlying23 rfl (sz_of Ty.inf23) rfl rfl rfl rfl) ?_
    refine PG.op _ rfl rfl rfl (by rintro _ rfl; exact o_move (.ptr _ _ _) rfl) ?_
    refine PG.op _ rfl rfl rfl (by rintro _ rfl; exact o_nilP rfl) ?_
    refine PG.op _ rfl rfl rfl (by rintro _ rfl; exact o_fld_ptr rfl Try.underlying58 rfl (sz_of Ty.inf23) (by decide)) ?_
    refine PG.op _ rfl rfl rfl (by rintro _ rfl; exact o_load_ptr_L (xs := [_, _, _]) rfl Try.underlying23 rfl (sz_of Ty.inf23) rfl rfl rfl rfl) ?_
    refine PG.op _ rfl rfl rfl (by rintro _ rfl; exact o_call Ty.cal17 (cmpV_c _ _) ⟨.inl rfl, .inl rfl, trivial⟩ (by exact pua rfl)) ?_
    refine PG.op _ rfl rfl rfl (by rintro _ rfl; exact o_assign (.v _) rfl) ?_
    refine PG.nil ⟨by kernel_rfl, rfl, (h3_ _ ?_)⟩
    refine WC.seq fun Fh5_ h5_ => ?_
    refine WC.region ?_
    refine RG.op _ _ rfl rfl (o_move (.ptr _ _ _) rfl) ?_
    refine RG.op _ _ rfl rfl (o_nilP rfl) ?_
    refine RG.op _ _ rfl rfl (o_fld_ptr rfl Try.underlying58 rfl (sz_of Ty.inf4) (by decide)) ?_
    refine RG.op _ _ rfl rfl (o_load_ptr rfl Try.underlying4 rfl rfl rfl rfl) ?_
    refine RG.op _ _ rfl rfl (o_not rfl) ?_
    refine RG.op _ _ rfl rfl (o_move (.v _) rfl) ?_
    refine RG.opg1 _ _ _ _ _ rfl rfl rfl rfl rfl (fun hb => o_move (.v _) rfl) ?_
    refine RG.opg1 _ _ _ _ _ rfl rfl rfl rfl rfl (fun hb => o_move (.v _) rfl) ?_
    refine RG.opg1 _ _ _ _ _ rfl rfl rfl rfl rfl (fun hb => o_eqI (gdT hb) (gdT hb)) ?_
    refine RG.op _ _ rfl rfl (o_or _ _ rfl rfl rfl) ?_
    refine RG.nil (h5_ _ ?_)
    refine WC.cond _ rfl (fun c4 => ?_) (fun c4 => ?_)
    ·
      have p4 := c4
      try simp only [CN] at p4
      refine WC.drawnB [1, 2] (by kernel_rfl) ?_
      refine PG.op _ rfl rfl rfl (fun _ hH => o_move (.ptr _ _ _) rfl) ?_
      refine PG.op _ rfl rfl rfl (fun _ hH => o_move (.ptr _ _ _) rfl) ?_
      refine PG.op _ rfl rfl rfl (fun _ hH => o_move (.ptr _ _ _) rfl) ?_
      refine PG.op _ rfl rfl rfl (fun _ hH => o_load_ptr_L (xs := [_, _, _]) rfl Try.underlying23 rfl (sz_of Ty.inf23) (keepB hH rfl rfl) rfl rfl rfl) ?_
      refine PG.op _ rfl rfl rfl (fun _ hH => o_load_ptr_L (xs := [_, _, _]) rfl Try.underlying23 rfl (sz_of Ty.inf23) (keepB hH rfl rfl) rfl rfl rfl) ?_
      refine PG.op _ rfl rfl rfl (fun _ hH => o_nilP rfl) ?_
      refine PG.op _ rfl rfl rfl (fun _ hH => o_fld_ptr rfl Try.underlying58 rfl (sz_of Ty.inf4) (by decide)) ?_
      refine PG.opm _ _ rfl rfl rfl (o_store (d := (.v _)) rfl rfl rfl rfl (sz_of Ty.inf4) (Nat.le_of_ble_eq_true rfl) rfl) ?_
      refine PG.op _ rfl rfl rfl (fun _ hH => o_nilP rfl) ?_
      refine PG.op _ rfl rfl rfl (fun _ hH => o_fld_ptr rfl Try.underlying58 rfl (sz_of Ty.inf23) (by decide)) ?_
      refine PG.opm _ _ rfl rfl rfl (o_store (d := (.agg [_, _, _])) rfl rfl rfl rfl (sz_of Ty.inf23) (Nat.le_of_ble_eq_true rfl) rfl) ?_
      refine PG.op _ rfl rfl rfl (fun _ hH => o_nilP rfl) ?_
      refine PG.op _ rfl rfl rfl (fun _ hH => o_fld_ptr rfl Try.underlying58 rfl (sz_of Ty.inf23) (by decide)) ?_
      refine PG.opm _ _ rfl rfl rfl (o_store (d := (.agg [_, _, _])) rfl rfl rfl rfl (sz_of Ty.inf23) (Nat.le_of_ble_eq_true rfl) rfl) ?_
      refine PG.nil ⟨by kernel_rfl, List.forall_mem_cons.2 ⟨noHs rfl, List.forall_mem_cons.2 ⟨noHs rfl, List.forall_mem_cons.2 ⟨noHs rfl, List.forall_mem_cons.2 ⟨noHs rfl, List.forall_mem_cons.2 ⟨noHs rfl, List.forall_mem_cons.2 ⟨noHs rfl, List.forall_mem_cons.2 ⟨noHs rfl, List.forall_mem_cons.2 ⟨fun _ => rfl, List.forall_mem_cons.2 ⟨noHs rfl, List.forall_mem_cons.2 ⟨noHs rfl, List.forall_mem_cons.2 ⟨fun _ => rfl, List.forall_mem_cons.2 ⟨noHs rfl, List.forall_mem_cons.2 ⟨noHs rfl, List.forall_mem_cons.2 ⟨fun _ => rfl, List.forall_mem_nil _⟩⟩⟩⟩⟩⟩⟩⟩⟩⟩⟩⟩⟩⟩, ?_⟩
      first | refine endM.mkN 1 [_] rfl rfl (by repeat (first | exact trivial | refine And.intro (one_ok (.own _ _ _ _ _ (Nat.le_refl _))) ?_ | refine And.intro (okp (by repeat (first | exact pu_bytes _ | exact pu_nil | exact pu_vs rfl | exact pu_map (fun _ => .v _) _ | exact pu_vals _ | refine pu_app ?_ ?_ | refine pu_cons (by exact pu_of rfl) ?_))) ?_)) ?_ | (simp only [thenQ, blkQ, noGo, if_true]; refine endM.mkN 1 [_] rfl rfl (by repeat (first | exact trivial | refine And.intro (one_ok (.own _ _ _ _ _ (Nat.le_refl _))) ?_ | refine And.intro (okp (by repeat (first | exact pu_bytes _ | exact pu_nil | exact pu_vs rfl | exact pu_map (fun _ => .v _) _ | exact pu_vals _ | refine pu_app ?_ ?_ | refine pu_cons (by exact pu_of rfl) ?_))) ?_)) ?_)
      exact EndsM.r0 rfl   (⟨rfl, congrArg (fun x => [x]) (by rw [pick_yes (by simpa [p2] using p4)]; rfl)⟩)
    ·
      have p4 := c4
      try simp only [CN] at p4
      refine WC.skip ?_
      first | refine endM.mkN 1 [_] rfl rfl (by repeat (first | exact trivial | refine And.intro (one_ok (.own _ _ _ _ _ (Nat.le_refl _))) ?_ | refine And.intro (okp (by repeat (first | exact pu_bytes _ | exact pu_nil | exact pu_vs rfl | exact pu_map (fun _ => .v _) _ | exact pu_vals _ | refine pu_app ?_ ?_ | refine pu_cons (by exact pu_of rfl) ?_))) ?_)) ?_ | (simp only [thenQ, blkQ, noGo, if_true]; refine endM.mkN 1 [_] rfl rfl (by repeat (first | exact trivial | refine And.intro (one_ok (.own _ _ _ _ _ (Nat.le_refl _))) ?_ | refine And.intro (okp (by repeat (first | exact pu_bytes _ | exact pu_nil | exact pu_vs rfl | exact pu_map (fun _ => .v _) _ | exact pu_vals _ | refine pu_app ?_ ?_ | refine pu_cons (by exact pu_of rfl) ?_))) ?_)) ?_)
      exact EndsM.r0 rfl   (⟨rfl, congrArg (fun x => [x]) (by rw [pick_no (by simpa [p2] using p4)])⟩)
  ·
    have p2 := c2
    try simp only [CN] at p2
    refine WC.skip (h3_ _ ?_)
    refine WC.seq fun Fh6_ h6_ => ?_
    refine WC.region ?_
    refine RG.op _ _ rfl rfl (o_move (.ptr _ _ _) rfl) ?_
    refine RG.op _ _ rfl rfl (o_nilP rfl) ?_
    refine RG.op _ _ rfl rfl (o_fld_ptr rfl Try.underlying58 rfl (sz_of Ty.inf4) (by decide)) ?_
    refine RG.op _ _ rfl rfl (o_load_ptr rfl Try.underlying4 rfl rfl rfl rfl) ?_
    refine RG.op _ _ rfl rfl (o_not rfl) ?_
    refine RG.op _ _ rfl rfl (o_move (.v _) rfl) ?_
    refine RG.opg1 _ _ _ _ _ rfl rfl rfl rfl rfl (fun hb => o_move (.v _) rfl) ?_
    refine RG.opg1 _ _ _ _ _ rfl rfl rfl rfl rfl (fun hb => o_move (.v _) rfl) ?_
    refine RG.opg1 _ _ _ _ _ rfl rfl rfl rfl rfl (fun hb => o_eqI (gdT hb) (gdT hb)) ?_
    refine RG.op _ _ rfl rfl (o_or _ _ rfl rfl rfl) ?_
    refine RG.nil (h6_ _ ?_)
    refine WC.cond _ rfl (fun c4 => ?_) (fun c4 => ?_)
    ·
      have p4 := c4
      try simp only [CN] at p4
      refine WC.drawnB [1, 2] (by kernel_rfl) ?_
      refine PG.op _ rfl rfl rfl (fun _ hH => o_move (.ptr _ _ _) rfl) ?_
      refine PG.op _ rfl rfl rfl (fun _ hH => o_move (.ptr _ _ _) rfl) ?_
      refine PG.op _ rfl rfl rfl (fun _ hH => o_move (.ptr _ _ _) rfl) ?_
      refine PG.op _ rfl rfl rfl (fun _ hH => o_load_ptr_L (xs := [_, _, _]) rfl Try.underlying23 rfl (sz_of Ty.inf23) (keepB hH rfl rfl) rfl rfl rfl) ?_
      refine PG.op _ rfl rfl rfl (fun _ hH => o_load_ptr_L (xs := [_, _, _]) rfl Try.underlying23 rfl (sz_of Ty.inf23) (keepB hH rfl rfl) rfl rfl rfl) ?_
      refine PG.op _ rfl rfl rfl (fun _ hH => o_nilP rfl) ?_
      refine PG.op _ rfl rfl rfl (fun _ hH => o_fld_ptr rfl Try.underlying58 rfl (sz_of Ty.inf4) (by decide)) ?_
      refine PG.opm _ _ rfl rfl rfl (o_store (d := (.v _)) rfl rfl rfl rfl (sz_of Ty.inf4) (Nat.le_of_ble_eq_true rfl) rfl) ?_
      refine PG.op _ rfl rfl rfl (fun _ hH => o_nilP rfl) ?_
      refine PG.op _ rfl rfl rfl (fun _ hH => o_fld_ptr rfl Try.underlying58 rfl (sz_of Ty.inf23) (by decide)) ?_
      refine PG.opm _ _ rfl rfl rfl (o_store (d := (.agg [_, _, _])) rfl rfl rfl rfl (sz_of Ty.inf23) (Nat.le_of_ble_eq_true rfl) rfl) ?_
      refine PG.op _ rfl rfl rfl (fun _ hH => o_nilP rfl) ?_
      refine PG.op _ rfl rfl rfl (fun _ hH => o_fld_ptr rfl Try.underlying58 rfl (sz_of Ty.inf23) (by decide)) ?_
      refine PG.opm _ _ rfl rfl rfl (o_store (d := (.agg [_, _, _])) rfl rfl rfl rfl (sz_of Ty.inf23) (Nat.le_of_ble_eq_true rfl) rfl) ?_
      refine PG.nil ⟨by kernel_rfl, List.forall_mem_cons.2 ⟨noHs rfl, List.forall_mem_cons.2 ⟨noHs rfl, List.forall_mem_cons.2 ⟨noHs rfl, List.forall_mem_cons.2 ⟨noHs rfl, List.forall_mem_cons.2 ⟨noHs rfl, List.forall_mem_cons.2 ⟨noHs rfl, List.forall_mem_cons.2 ⟨noHs rfl, List.forall_mem_cons.2 ⟨fun _ => rfl, List.forall_mem_cons.2 ⟨noHs rfl, List.forall_mem_cons.2 ⟨noHs rfl, List.forall_mem_cons.2 ⟨fun _ => rfl, List.forall_mem_cons.2 ⟨noHs rfl, List.forall_mem_cons.2 ⟨noHs rfl, List.forall_mem_cons.2 ⟨fun _ => rfl, List.forall_mem_nil _⟩⟩⟩⟩⟩⟩⟩⟩⟩⟩⟩⟩⟩⟩, ?_⟩
      first | refine endM.mkN 1 [_] rfl rfl (by repeat (first | exact trivial | refine And.intro (one_ok (.own _ _ _ _ _ (Nat.le_refl _))) ?_ | refine And.intro (okp (by repeat (first | exact pu_bytes _ | exact pu_nil | exact pu_vs rfl | exact pu_map (fun _ => .v _) _ | exact pu_vals _ | refine pu_app ?_ ?_ | refine pu_cons (by exact pu_of rfl) ?_))) ?_)) ?_ | (simp only [thenQ, blkQ, noGo, if_true]; refine endM.mkN 1 [_] rfl rfl (by repeat (first | exact trivial | refine And.intro (one_ok (.own _ _ _ _ _ (Nat.le_refl _))) ?_ | refine And.intro (okp (by repeat (first | exact pu_bytes _ | exact pu_nil | exact pu_vs rfl | exact pu_map (fun _ => .v _) _ | exact pu_vals _ | refine pu_app ?_ ?_ | refine pu_cons (by exact pu_of rfl) ?_))) ?_)) ?_)
      exact EndsM.r0 rfl   (⟨rfl, congrArg (fun x => [x]) (by rw [pick_yes (by simpa [p2] using p4)]; rfl)⟩)
    ·
      have p4 := c4
      try simp only [CN] at p4
      refine WC.skip ?_
      first | refine endM.mkN 1 [_] rfl rfl (by repeat (first | exact trivial | refine And.intro (one_ok (.own _ _ _ _ _ (Nat.le_refl _))) ?_ | refine And.intro (okp (by repeat (first | exact pu_bytes _ | exact pu_nil | exact pu_vs rfl | exact pu_map (fun _ => .v _) _ | exact pu_vals _ | refine pu_app ?_ ?_ | refine pu_cons (by exact pu_of rfl) ?_))) ?_)) ?_ | (simp only [thenQ, blkQ, noGo, if_true]; refine endM.mkN 1 [_] rfl rfl (by repeat (first | exact trivial | refine And.intro (one_ok (.own _ _ _ _ _ (Nat.le_refl _))) ?_ | refine And.intro (okp (by repeat (first | exact pu_bytes _ | exact pu_nil | exact pu_vs rfl | exact pu_map (fun _ => .v _) _ | exact pu_vals _ | refine pu_app ?_ ?_ | refine pu_cons (by exact pu_of rfl) ?_))) ?_)) ?_)
      exact EndsM.r0 rfl   (⟨rfl, congrArg (fun x => [x]) (by rw [pick_no (by simpa [p2] using p4)])⟩)
end Go.Proofs.Ytpacdeiaimfiaaa
