/-
  Layer row: the table of layouts, types, what fits. No condition.
-/
import Derived.Test.YtbdibcpenihpdaaR1
import Derived.Test.YtbdibcpenihpdaaDlS
import Derived.Test.YtbdibcpenihpdaaDlU
set_option linter.unusedSimpArgs false
set_option linter.unusedVariables false
namespace Go.Proofs.Ytbdibcpenihpdaa
open Go.RowKit Go.DL

set_option maxHeartbeats 4000000 in
theorem ptext_c (b : List UInt8) (v : Val) (hb : b.length ≤ 10995116277760) (hv : v.t.length ≤ 1099511627776) : FunM Try.prog 52 [ow 0 b.length 1, VD v] [tb 5 b.length (bytesD b)] (fun o H' => o = .ret (ow 0 (b.length + (encB v.t.length).length + v.t.length) 1) ∧ H' = [tb 5 (b.length + (encB v.t.length).length + v.t.length) (bytesD (b ++ (encB v.t.length ++ v.t)))]) := by
  have h4 := encB_len10 (u := v.t.length) (by omega)
  have hq : ((v.t.length : Int) % 18446744073709551616).toNat = v.t.length := by omega
  refine FunM.of Try.func52 rfl (Nat.le_of_ble_eq_true rfl) fun C => ?_
  refine WC.seq fun Fh1_ h1_ => ?_
  refine WC.region ?_
  refine RG.op _ _ rfl rfl (o_box (d := .agg [_, _, _]) rfl rfl) ?_
  refine RG.op _ _ rfl rfl (o_assign (.v _) rfl) ?_
  refine RG.nil (h1_ _ ?_)
  refine WC.seq fun Fh2_ h2_ => ?_
  refine WC.region ?_
  refine RG.op _ _ rfl rfl (o_move (.own _ _ _ _ _) rfl) ?_
  refine RG.op _ _ rfl rfl (o_fld_ptr rfl Try.underlying37 rfl (sz_of Ty.inf9) (by decide)) ?_
  refine RG.op _ _ rfl rfl (o_load_ptr rfl Try.underlying9 rfl rfl rfl rfl) ?_
  refine RG.op _ _ rfl rfl (o_lenS rfl Try.underlying9) ?_
  refine RG.op _ _ rfl rfl ((o_i64toU rfl Try.underlying3 Try.underlying72).cast (congrArg N64 hq)) ?_
  first | refine RG.op _ _ rfl rfl (o_call Ty.cal39 (vput_c _ _ (by first | omega | exact ubyte _ | (simp only [LS] <;> omega)) (by first | omega | exact ubyte _ | (simp only [LS] <;> omega))) ⟨.inr ⟨rfl, rfl⟩, .inl rfl, trivial⟩ (by exact pua rfl)) ?_ | refine RG.op _ _ rfl rfl (o_call Ty.cal39 (vput_c [] _ (by first | omega | exact ubyte _ | (simp only [LS] <;> omega)) (by first | omega | exact ubyte _ | (simp only [LS] <;> omega))) ⟨.inr ⟨rfl, rfl⟩, .inl rfl, trivial⟩ (by exact pua rfl)) ?_
  refine RG.op _ _ rfl rfl (o_appT (Elem.of Try.underlying22 Ty.inf5 rfl (by decide)) rfl rfl rfl (by first | omega | exact ubyte _ | (simp only [LS] <;> omega)) (by first | omega | exact ubyte _ | (simp only [LS] <;> omega)) (by repeat (first | exact bytesD_one _ | exact one_nil | exact one_map (fun _ => rfl) _ | exact one_vals _ | refine one_app ?_ ?_ | refine one_cons rfl ?_)) (by first | omega | exact ubyte _ | (simp only [LS] <;> omega)) (by first | omega | exact ubyte _ | (simp only [LS] <;> omega))) ?_
  refine RG.op _ _ rfl rfl (o_assign (.own _ _ _ _ _) rfl) ?_
  refine RG.nil (h2_ _ ?_)
  refine WC.seq fun Fh3_ h3_ => ?_
  refine WC.region ?_
  refine RG.op _ _ rfl rfl (o_move (.own _ _ _ _ _) rfl) ?_
  refine RG.op _ _ rfl rfl (o_fld_ptr rfl Try.underlying37 rfl (sz_of Ty.inf9) (by decide)) ?_
  refine RG.op _ _ rfl rfl (o_load_ptr rfl Try.underlying9 rfl rfl rfl rfl) ?_
  refine RG.op _ _ rfl rfl (o_appS (Elem.of Try.underlying22 Ty.inf5 rfl (by decide)) rfl rfl Try.underlying9 Ty.inf5 rfl (by first | omega | exact ubyte _ | (simp only [LS] <;> omega)) (by first | omega | exact ubyte _ | (simp only [LS] <;> omega)) (by first | omega | exact ubyte _ | (simp only [LS] <;> omega))) ?_
  refine RG.op _ _ rfl rfl (o_assign (.own _ _ _ _ _) rfl) ?_
  refine RG.nil (h3_ _ ?_)
  refine WC.ret ?_
  first | refine endM.mk 1 [_] rfl rfl (by repeat (first | exact trivial | refine And.intro (okp (by repeat (first | exact pu_bytes _ | exact pu_nil | exact pu_vs rfl | exact pu_map (fun _ => .v _) _ | exact pu_vals _ | refine pu_app ?_ ?_ | refine pu_cons (by exact pu_of rfl) ?_))) ?_)) ?_ | (simp only [thenQ, blkQ, noGo]; refine endM.mk 1 [_] rfl rfl (by repeat (first | exact trivial | refine And.intro (okp (by repeat (first | exact pu_bytes _ | exact pu_nil | exact pu_vs rfl | exact pu_map (fun _ => .v _) _ | exact pu_vals _ | refine pu_app ?_ ?_ | refine pu_cons (by exact pu_of rfl) ?_))) ?_)) ?_)
  exact EndsM.r1 rfl (.tmp _ (.own _ _ _ _ _) rfl) (by first | exact .own _ _ _ _ _ (Nat.le_refl _) | exact .v _ | exact Pure'.ok (by exact pu_of rfl) _ | exact .tup _ (by repeat (first | exact ok_nil | refine ok_cons (by first | exact .own _ _ _ _ _ (Nat.le_refl _) | exact .ptr _ _ _ (Nat.le_refl _) | exact .v _ | exact Pure'.ok (by exact pu_of rfl) _) ?_))) (⟨congrArg DOut.ret (ow_eq (by simp)), congrArg (fun c => [c]) (tb_eq (by simp) (by simp [bytesD_app]))⟩)
def tyB (t : UInt8) : Bool := decide (t = 1) || (decide (t = 2) || decide (t = 3))
theorem tyB_cases {t : UInt8} (h : tyB t = true) : t = 1 ∨ t = 2 ∨ t = 3 := by simpa [tyB] using h
def fv (n : Nat) : Value := .func (.func n) #[] #[]
def lks : List Value := [.int .u8 1, .int .u8 2, .int .u8 3]
def lcs : List D := [.agg [.v (fv 48), .v (fv 49)], .agg [.v (fv 50), .v (fv 51)], .agg [.v (fv 52), .v (fv 53)]]
theorem pu_lcs : ∀ c ∈ lcs, Pure' c := pu_cons (.agg _ (pu_vs rfl)) (pu_cons (.agg _ (pu_vs rfl)) (pu_cons (.agg _ (pu_vs rfl)) pu_nil))
set_option maxHeartbeats 4000000 in
theorem lay_c : Fun Try.prog 30 [] (· = .mp lks lcs) := by
  refine Fun.of Try.func30 rfl (Nat.le_of_ble_eq_true rfl) fun C => ?_
  refine WC.seq fun Fh1_ h1_ => ?_
  refine WC.region ?_
  refine RG.op _ _ rfl rfl (o_assign (.v _) rfl) ?_
  refine RG.nil (h1_ _ ?_)
  refine WC.seq fun Fh2_ h2_ => ?_
  refine WC.region ?_
  refine RG.op _ _ rfl rfl (o_makeMap trivial) ?_
  refine RG.op _ _ rfl rfl (o_build (cs := [(.v _), (.v _)]) Try.underlying63 Ty.inf63 (Ty.pl63 Try.underlying63) rfl) ?_
  refine RG.op _ _ rfl rfl (o_insert (d := (.agg [_, _])) rfl rfl rfl Try.underlying55 Try.underlying5 rfl rfl rfl rfl) ?_
  refine RG.op _ _ rfl rfl (o_build (cs := [(.v _), (.v _)]) Try.underlying63 Ty.inf63 (Ty.pl63 Try.underlying63) rfl) ?_
  refine RG.op _ _ rfl rfl (o_insert (d := (.agg [_, _])) rfl rfl rfl Try.underlying55 Try.underlying5 rfl rfl rfl rfl) ?_
  refine RG.op _ _ rfl rfl (o_build (cs := [(.v _), (.v _)]) Try.underlying63 Ty.inf63 (Ty.pl63 Try.underlying63) rfl) ?_
  refine RG.op _ _ rfl rfl (o_insert (d := (.agg [_, _])) rfl rfl rfl Try.underlying55 Try.underlying5 rfl rfl rfl rfl) ?_
  refine RG.op _ _ rfl rfl (o_move (.omp _ _) rfl) ?_
  refine RG.op _ _ rfl rfl (o_assign (.omp _ _) rfl) ?_
  refine RG.nil (h2_ _ ?_)
  refine WC.ret ?_
  exact Ends.r1 rfl (.tmp _ (.omp _ _) rfl) (Frz.map lks lcs rfl rfl rfl rfl pu_lcs) (rfl)
def lpv (c : UInt8) : Value := if c = 1 then fv 48 else if c = 2 then fv 50 else if c = 3 then fv 52 else .nilFunc
def lgv (c : UInt8) : Value := if c = 1 then fv 49 else if c = 2 then fv 51 else if c = 3 then fv 53 else .nilFunc
theorem lv_one (c : UInt8) : ([D.v (lpv c), D.v (lgv c)].all oneD) = true := by
  unfold lpv lgv
  by_cases h1 : c = 1
  · rw [if_pos h1, if_pos h1]; rfl
  · rw [if_neg h1, if_neg h1]
    by_cases h2 : c = 2
    · rw [if_pos h2, if_pos h2]; rfl
    · rw [if_neg h2, if_neg h2]
      by_cases h3 : c = 3
      · rw [if_pos h3, if_pos h3]; rfl
      · rw [if_neg h3, if_neg h3]; rfl
section
variable {C : Ctx} {env : Nat → D} {H : Heap} {dst : Option Nat} {ty : TypeId} {pos : String} {after : Array Edge} {gu : Option (Nat × Bool)} {X Y : Operand}
theorem lay_miss {c : UInt8} (h1 : c ≠ 1) (h2 : c ≠ 2) (h3 : c ≠ 3) : kFind (.int .u8) (.int .u8 (c.toNat : Int)) lks 0 = some none := by
  have e : ∀ n : UInt8, c ≠ n → ((c.toNat : Int) == (n.toNat : Int)) = false := fun n hn => beq_false_of_ne fun he => hn (UInt8.toNat_inj.1 (Int.ofNat_inj.1 he))
  have a1 : ((c.toNat : Int) == 1) = false := e 1 h1
  have a2 : ((c.toNat : Int) == 2) = false := e 2 h2
  have a3 : ((c.toNat : Int) == 3) = false := e 3 h3
  unfold lks
  simp [kFind, Instr.sameNow, a1, a2, a3]
theorem layLook_c {c : UInt8} (hx : ev env X = .mp lks lcs) (hy : ev env Y = B8 c) : OpD Try.prog C ⟨dst, .lookup 55 X Y true, ty, pos, after, gu⟩ env H (.tup [.agg [.v (lpv c), .v (lgv c)], Bo (tyB c)]) H := by
  by_cases h1 : c = 1
  · subst h1; exact o_lookup_hit 0 hx hy Try.underlying55 Try.underlying5 rfl rfl rfl
  by_cases h2 : c = 2
  · subst h2; exact o_lookup_hit 1 hx hy Try.underlying55 Try.underlying5 rfl rfl rfl
  by_cases h3 : c = 3
  · subst h3; exact o_lookup_hit 2 hx hy Try.underlying55 Try.underlying5 rfl rfl rfl
  have hm := miss_sub (o_lookup_miss (P := Try.prog) (C := C) (env := env) (H := H) (dst := dst) (ty := ty) (pos := pos) (after := after) (gu := gu) (ok := true) hx hy Try.underlying55 Try.underlying5 rfl (z_of Ty.inf63) (lay_miss h1 h2 h3))
  have e1 : lpv c = .nilFunc := by unfold lpv; rw [if_neg h1, if_neg h2, if_neg h3]
  have e2 : lgv c = .nilFunc := by unfold lgv; rw [if_neg h1, if_neg h2, if_neg h3]
  have e3 : tyB c = false := by unfold tyB; rw [decide_eq_false h1, decide_eq_false h2, decide_eq_false h3]; rfl
  rw [e1, e2, e3]
  exact hm
theorem layGet_c {c : UInt8} (hc : tyB c = true) (hx : ev env X = .mp lks lcs) (hy : ev env Y = B8 c) : OpD Try.prog C ⟨dst, .lookup 55 X Y false, ty, pos, after, gu⟩ env H (.agg [.v (lpv c), .v (lgv c)]) H := by
  rcases tyB_cases hc with h | h | h
  · subst h; exact o_lookup_hit 0 hx hy Try.underlying55 Try.underlying5 rfl rfl rfl
  · subst h; exact o_lookup_hit 1 hx hy Try.underlying55 Try.underlying5 rfl rfl rfl
  · subst h; exact o_lookup_hit 2 hx hy Try.underlying55 Try.underlying5 rfl rfl rfl
end
set_option maxHeartbeats 4000000 in
theorem typed_c (ts : List UInt8) (hl : ts.length ≤ 1099511627776) : Fun Try.prog 31 [rdB ts, .mp lks lcs] (· = Bo (ts.all tyB)) := by
  refine Fun.of Try.func31 rfl (Nat.le_of_ble_eq_true rfl) fun C => ?_
  refine WC.seq fun Fh1_ h1_ => ?_
  refine WC.region ?_
  refine RG.op _ _ rfl rfl (o_assign (.v _) rfl) ?_
  refine RG.nil (h1_ _ ?_)
  refine WC.seq fun Fh2_ h2_ => ?_
  refine WC.seq fun Fh3_ h3_ => ?_
  refine WC.region ?_
  refine RG.op _ _ rfl rfl (o_move (.rd _ _) rfl) ?_
  refine RG.op _ _ rfl rfl (o_len_rd rfl Try.underlying22) ?_
  refine RG.op _ _ rfl rfl (o_move (.v _) rfl) ?_
  refine RG.nil (h3_ _ ?_)
  refine WC.block ?_
  refine WC.loopU [4, 6, 7, 8, 11, 12, 13, 14, 15, 16, 17, 18, 19, 20, 21, 22, 23] (fun (k : Nat) => [(11, I64 ((k : Nat) : Int))]) (fun (k : Nat) => []) (fun (k : Nat) => k ≤ ts.length ∧ (ts.take k).all tyB = true) (fun (k : Nat) => ts.length - k) 0 ⟨by omega, rfl⟩ ?lpa4_ ?lpb5_
  case lpa4_ =>
    exact .mk' ⟨⟨rfl, .v _⟩, trivial⟩ (same_refl _ _) (rfl) (by repeat (first | exact trivial | refine And.intro (Nat.le_refl _) ?_ | refine And.intro trivial ?_ | refine And.intro (by show _ ≤ _; (first | omega | (simp only [LS] <;> omega))) ?_)) (by repeat (first | exact trivial | refine And.intro (okp (by repeat (first | exact pu_bytes _ | exact pu_nil | exact pu_vs rfl | exact pu_map (fun _ => .v _) _ | exact pu_vals _ | refine pu_app ?_ ?_ | refine pu_cons (by exact pu_of rfl) ?_))) ?_))
  case lpb5_ =>
    rintro k hI
    obtain ⟨hk, ha⟩ := id hI
    refine WC.seq fun Fh6_ h6_ => ?_
    refine WC.region ?_
    refine RG.op _ _ rfl rfl (o_ltI rfl rfl) ?_
    refine RG.nil (h6_ _ ?_)
    refine WC.seq fun Fh7_ h7_ => ?_
    refine WC.cond _ rfl (fun c2 => ?_) (fun c2 => ?_)
    ·
      have p2 := c2
      try simp only [CN] at p2
      refine WC.skip (h7_ _ ?_)
      refine WC.seq fun Fh8_ h8_ => ?_
      refine WC.block ?_
      refine WC.seq fun Fh9_ h9_ => ?_
      refine WC.region ?_
      refine RG.op _ _ rfl rfl (o_ixn_M k rfl rfl Try.underlying22 (sz_of Ty.inf5) (by first | omega | exact ubyte _ | (simp only [LS] <;> omega)) (by first | omega | exact ubyte _ | (simp only [LS] <;> omega))) ?_
      refine RG.op _ _ rfl rfl (o_load_adr rfl Try.underlying5 rfl rfl) ?_
      refine RG.op _ _ rfl rfl (o_assign (.v _) rfl) ?_
      refine RG.nil (h9_ _ ?_)
      refine WC.seq fun Fh10_ h10_ => ?_
      refine WC.region ?_
      refine RG.op _ _ rfl rfl (o_move (.mp _ _) rfl) ?_
      refine RG.op _ _ rfl rfl (o_move (.v _) rfl) ?_
      refine RG.op _ _ rfl rfl (layLook_c rfl rfl) ?_
      refine RG.op _ _ rfl rfl (o_move (.tup _) rfl) ?_
      refine RG.op _ _ rfl rfl (o_extract rfl rfl) ?_
      refine RG.op _ _ rfl rfl (o_extract rfl rfl) ?_
      refine RG.op _ _ rfl rfl (o_alloc (z_of Ty.inf63) rfl) ?_
      refine RG.op _ _ rfl rfl (o_store rfl rfl rfl rfl (sz_of Ty.inf63) (show 0 + 2 ≤ 2 from Nat.le_refl _) (lv_one _)) ?_
      refine RG.op _ _ rfl rfl (o_assign (.v _) rfl) ?_
      refine RG.nil (h10_ _ ?_)
      refine WC.seq fun Fh11_ h11_ => ?_
      refine WC.region ?_
      refine RG.op _ _ rfl rfl (o_move (.v _) rfl) ?_
      refine RG.op _ _ rfl rfl (o_not rfl) ?_
      refine RG.nil (h11_ _ ?_)
      refine WC.cond _ rfl (fun c5 => ?_) (fun c5 => ?_)
      ·
        have p5 := c5
        try simp only [CN] at p5
        refine WC.seq fun Fh12_ h12_ => ?_
        refine WC.region ?_
        refine RG.op _ _ rfl rfl (o_assign (.v _) rfl) ?_
        refine RG.nil (h12_ _ ?_)
        refine WC.ret ?_
        exact Ends.r1 rfl (.tmp _ (.v _) rfl) (.v _) (congrArg Bo (by rw [all_stop (k := k) (by omega) p5]))
      ·
        have p5 := c5
        try simp only [CN] at p5
        refine WC.skip (h8_ _ ?_)
        refine WC.region ?_
        refine RG.op _ _ rfl rfl (o_add rfl rfl (by first | omega | exact ubyte _ | (simp only [LS] <;> omega)) (by first | omega | exact ubyte _ | (simp only [LS] <;> omega))) ?_
        refine RG.op _ _ rfl rfl (o_move (.v _) rfl) ?_
        refine RG.nil (Exists.intro (k + 1) ⟨⟨by omega, all_step (by omega) hI.2 p5⟩, by first | omega | (simp only [LS] <;> omega), ?_⟩)
        exact .mk' ⟨⟨rfl, .v _⟩, trivial⟩ (by repeat (first | with_reducible exact same_refl _ _ | with_reducible refine same_updO (by with_unfolding_all exact rfl) ?_ | with_reducible refine same_updN ?_ | with_reducible refine same_updL (by with_unfolding_all exact rfl) ?_ | with_reducible refine same_forget (by with_unfolding_all exact rfl) ?_)) (rfl) (by repeat (first | exact trivial | refine And.intro (Nat.le_refl _) ?_ | refine And.intro trivial ?_ | refine And.intro (by show _ ≤ _; (first | omega | (simp only [LS] <;> omega))) ?_)) (by repeat (first | exact trivial | refine And.intro (okp (by repeat (first | exact pu_bytes _ | exact pu_nil | exact pu_vs rfl | exact pu_map (fun _ => .v _) _ | exact pu_vals _ | refine pu_app ?_ ?_ | refine pu_cons (by exact pu_of rfl) ?_))) ?_))
    ·
      have p2 := c2
      try simp only [CN] at p2
      refine WC.exit (h2_ _ ?_)
      refine WC.seq fun Fh13_ h13_ => ?_
      refine WC.region ?_
      refine RG.op _ _ rfl rfl (o_assign (.v _) rfl) ?_
      refine RG.nil (h13_ _ ?_)
      refine WC.ret ?_
      exact Ends.r1 rfl (.tmp _ (.v _) rfl) (.v _) (congrArg Bo (by have e : k = ts.length := (by omega); subst e; rw [List.take_length] at ha; rw [ha]))
set_option maxHeartbeats 4000000 in
theorem nulls_c (n : Nat) (hn : n ≤ 1099511627776) : Fun Try.prog 33 [I64 ((n : Nat) : Int)] (· = I64 (((n + 7) / 8 : Nat) : Int)) := by
  refine Fun.of Try.func33 rfl (Nat.le_of_ble_eq_true rfl) fun C => ?_
  refine WC.seq fun Fh1_ h1_ => ?_
  refine WC.region ?_
  refine RG.op _ _ rfl rfl (o_assign (.v _) rfl) ?_
  refine RG.nil (h1_ _ ?_)
  refine WC.seq fun Fh2_ h2_ => ?_
  refine WC.region ?_
  refine RG.op _ _ rfl rfl (o_move (.v _) rfl) ?_
  refine RG.op _ _ rfl rfl (o_add rfl rfl (by first | omega | exact ubyte _ | (simp only [LS] <;> omega)) (by first | omega | exact ubyte _ | (simp only [LS] <;> omega))) ?_
  refine RG.op _ _ rfl rfl (o_quo rfl rfl (by first | omega | exact ubyte _ | (simp only [LS] <;> omega)) (by first | omega | exact ubyte _ | (simp only [LS] <;> omega)) (by first | omega | exact ubyte _ | (simp only [LS] <;> omega))) ?_
  refine RG.op _ _ rfl rfl (o_assign (.v _) rfl) ?_
  refine RG.nil (h2_ _ ?_)
  refine WC.ret ?_
  exact Ends.r1 rfl (.tmp _ (.v _) rfl) (.v _) (congrArg I64 (by omega))
set_option maxHeartbeats 4000000 in
theorem rtypes_c (ts : List UInt8) (hl : ts.length ≤ 1099511627776) : Fun Try.prog 22 [rdB ts] (· = Bo (ts.all tyB)) := by
  refine Fun.of Try.func22 rfl (Nat.le_of_ble_eq_true rfl) fun C => ?_
  refine WC.seq fun Fh1_ h1_ => ?_
  refine WC.region ?_
  refine RG.op _ _ rfl rfl (o_assign (.v _) rfl) ?_
  refine RG.nil (h1_ _ ?_)
  refine WC.seq fun Fh2_ h2_ => ?_
  refine WC.seq fun Fh3_ h3_ => ?_
  refine WC.region ?_
  refine RG.op _ _ rfl rfl (o_assign (.v _) rfl) ?_
  refine RG.nil (h3_ _ ?_)
  refine WC.block ?_
  refine WC.loopU [2, 3, 4, 5, 6, 7, 8, 9, 10, 11, 12, 13, 14, 15, 16, 17, 18, 19, 20, 21, 22, 23, 24, 25, 26, 27, 28] (fun (k : Nat) => [(3, I64 ((k : Nat) : Int))]) (fun (k : Nat) => []) (fun (k : Nat) => k ≤ ts.length ∧ (ts.take k).all tyB = true) (fun (k : Nat) => ts.length - k) 0 ⟨by omega, rfl⟩ ?lpa4_ ?lpb5_
  case lpa4_ =>
    exact .mk' ⟨⟨rfl, .v _⟩, trivial⟩ (same_refl _ _) (rfl) (by repeat (first | exact trivial | refine And.intro (Nat.le_refl _) ?_ | refine And.intro trivial ?_ | refine And.intro (by show _ ≤ _; (first | omega | (simp only [LS] <;> omega))) ?_)) (by repeat (first | exact trivial | refine And.intro (okp (by repeat (first | exact pu_bytes _ | exact pu_nil | exact pu_vs rfl | exact pu_map (fun _ => .v _) _ | exact pu_vals _ | refine pu_app ?_ ?_ | refine pu_cons (by exact pu_of rfl) ?_))) ?_))
  case lpb5_ =>
    rintro k hI
    obtain ⟨hk, ha⟩ := id hI
    refine WC.seq fun Fh6_ h6_ => ?_
    refine WC.seq fun Fh7_ h7_ => ?_
    refine WC.region ?_
    refine RG.op _ _ rfl rfl (o_move (.v _) rfl) ?_
    refine RG.op _ _ rfl rfl (o_move (.rd _ _) rfl) ?_
    refine RG.op _ _ rfl rfl (o_len_rd rfl Try.underlying22) ?_
    refine RG.op _ _ rfl rfl (o_ltI rfl rfl) ?_
    refine RG.nil (h7_ _ ?_)
    refine WC.cond _ rfl (fun c2 => ?_) (fun c2 => ?_)
    ·
      have p2 := c2
      try simp only [CN] at p2
      refine WC.skip (h6_ _ ?_)
      refine WC.seq fun Fh8_ h8_ => ?_
      refine WC.block ?_
      refine WC.seq fun Fh9_ h9_ => ?_
      refine WC.region ?_
      refine RG.op _ _ rfl rfl (o_move (.rd _ _) rfl) ?_
      refine RG.op _ _ rfl rfl (o_move (.v _) rfl) ?_
      refine RG.op _ _ rfl rfl (o_ixn_M k rfl rfl Try.underlying22 (sz_of Ty.inf5) (by first | omega | exact ubyte _ | (simp only [LS] <;> omega)) (by first | omega | exact ubyte _ | (simp only [LS] <;> omega))) ?_
      refine RG.op _ _ rfl rfl (o_load_adr rfl Try.underlying5 rfl rfl) ?_
      refine RG.op _ _ rfl rfl (o_neB (b := 1) rfl rfl) ?_
      refine RG.op _ _ rfl rfl (o_move (.v _) rfl) ?_
      refine RG.opg1 _ _ _ _ _ rfl rfl rfl rfl rfl (fun hb => o_move (.rd _ _) rfl) ?_
      refine RG.opg1 _ _ _ _ _ rfl rfl rfl rfl rfl (fun hb => o_move (.v _) rfl) ?_
      refine RG.opg1 _ _ _ _ _ rfl rfl rfl rfl rfl (fun hb => o_ixn_MZ (0 : UInt8) k (gdT hb) (gdT hb) Try.underlying22 (sz_of Ty.inf5) (by first | omega | exact ubyte _ | (have hb' := hb; simp only [CN] at hb'; omega) | (simp only [LS] <;> omega) | (have hb' := hb; simp only [CN] at hb'; simp only [LS]; omega)) (by first | omega | exact ubyte _ | (have hb' := hb; simp only [CN] at hb'; omega) | (simp only [LS] <;> omega) | (have hb' := hb; simp only [CN] at hb'; simp only [LS]; omega))) ?_
      refine RG.opg1 _ _ _ _ _ rfl rfl rfl rfl rfl (fun hb => o_load_adr (gdT hb) Try.underlying5 rfl rfl) ?_
      refine RG.opg1 _ _ _ _ _ rfl rfl rfl rfl rfl (fun hb => o_neB (b := 2) (gdT hb) rfl) ?_
      refine RG.op _ _ rfl rfl (o_and _ _ rfl rfl rfl) ?_
      refine RG.op _ _ rfl rfl (o_move (.v _) rfl) ?_
      refine RG.opg1 _ _ _ _ _ rfl rfl rfl rfl rfl (fun hb => o_move (.rd _ _) rfl) ?_
      refine RG.opg1 _ _ _ _ _ rfl rfl rfl rfl rfl (fun hb => o_move (.v _) rfl) ?_
      refine RG.opg1 _ _ _ _ _ rfl rfl rfl rfl rfl (fun hb => o_ixn_MZ (0 : UInt8) k (gdT hb) (gdT hb) Try.underlying22 (sz_of Ty.inf5) (by first | omega | exact ubyte _ | (have hb' := hb; simp only [CN] at hb'; omega) | (simp only [LS] <;> omega) | (have hb' := hb; simp only [CN] at hb'; simp only [LS]; omega)) (by first | omega | exact ubyte _ | (have hb' := hb; simp only [CN] at hb'; omega) | (simp only [LS] <;> omega) | (have hb' := hb; simp only [CN] at hb'; simp only [LS]; omega))) ?_
      refine RG.opg1 _ _ _ _ _ rfl rfl rfl rfl rfl (fun hb => o_load_adr (gdT hb) Try.underlying5 rfl rfl) ?_
      refine RG.opg1 _ _ _ _ _ rfl rfl rfl rfl rfl (fun hb => o_neB (b := 3) (gdT hb) rfl) ?_
      refine RG.op _ _ rfl rfl (o_and _ _ rfl rfl rfl) ?_
      refine RG.nil (h9_ _ ?_)
      refine WC.cond _ rfl (fun c4 => ?_) (fun c4 => ?_)
      ·
        have p4 := c4
        try simp only [CN] at p4
        refine WC.seq fun Fh10_ h10_ => ?_
        refine WC.region ?_
        refine RG.op _ _ rfl rfl (o_assign (.v _) rfl) ?_
        refine RG.nil (h10_ _ ?_)
        refine WC.ret ?_
        exact Ends.r1 rfl (.tmp _ (.v _) rfl) (.v _) (congrArg Bo (by rw [all_stop (k := k) (f := tyB) (by omega) (by have a := p4; rw [← gd_at (by omega)] at a; unfold tyB; simp only [Bool.or_eq_false_iff, decide_eq_false_iff_not]; exact ⟨a.1.1, a.1.2, a.2⟩)]))
      ·
        have p4 := c4
        try simp only [CN] at p4
        refine WC.skip (h8_ _ ?_)
        refine WC.region ?_
        refine RG.op _ _ rfl rfl (o_move (.v _) rfl) ?_
        refine RG.op _ _ rfl rfl (o_add rfl rfl (by first | omega | exact ubyte _ | (simp only [LS] <;> omega)) (by first | omega | exact ubyte _ | (simp only [LS] <;> omega))) ?_
        refine RG.op _ _ rfl rfl (o_assign (.v _) rfl) ?_
        refine RG.nil (Exists.intro (k + 1) ⟨⟨by omega, all_step (by omega) hI.2 (by have a := p4; rw [← gd_at (by omega)] at a; unfold tyB; simp only [Bool.or_eq_true, decide_eq_true_eq]; rcases a with (a | a) | a; exact .inl a; exact .inr (.inl a); exact .inr (.inr a))⟩, by first | omega | (simp only [LS] <;> omega), ?_⟩)
        exact .mk' ⟨⟨rfl, .v _⟩, trivial⟩ (by repeat (first | with_reducible exact same_refl _ _ | with_reducible refine same_updO (by with_unfolding_all exact rfl) ?_ | with_reducible refine same_updN ?_ | with_reducible refine same_updL (by with_unfolding_all exact rfl) ?_ | with_reducible refine same_forget (by with_unfolding_all exact rfl) ?_)) (rfl) (by repeat (first | exact trivial | refine And.intro (Nat.le_refl _) ?_ | refine And.intro trivial ?_ | refine And.intro (by show _ ≤ _; (first | omega | (simp only [LS] <;> omega))) ?_)) (by repeat (first | exact trivial | refine And.intro (okp (by repeat (first | exact pu_bytes _ | exact pu_nil | exact pu_vs rfl | exact pu_map (fun _ => .v _) _ | exact pu_vals _ | refine pu_app ?_ ?_ | refine pu_cons (by exact pu_of rfl) ?_))) ?_))
    ·
      have p2 := c2
      try simp only [CN] at p2
      refine WC.exit (h2_ _ ?_)
      refine WC.seq fun Fh11_ h11_ => ?_
      refine WC.region ?_
      refine RG.op _ _ rfl rfl (o_assign (.v _) rfl) ?_
      refine RG.nil (h11_ _ ?_)
      refine WC.ret ?_
      exact Ends.r1 rfl (.tmp _ (.v _) rfl) (.v _) (congrArg Bo (by have e : k = ts.length := (by omega); subst e; rw [List.take_length] at ha; rw [ha]))
end Go.Proofs.Ytbdibcpenihpdaa
