/-
  What the laws stand on, part 4 of 6: plain lemmas; no condition.
-/
import Derived.Test.YtpdjcfhmdeeikaaPkc
set_option linter.unusedSimpArgs false
set_option linter.unusedVariables false
set_option linter.unusedSectionVars false
namespace Go.Proofs.Ytpdjcfhmdeeikaa
open Go.RowKit Go.DL

/-- A number that is one. -/
def inI (v : Val) : Prop := -9223372036854775808 ≤ v.i ∧ v.i ≤ 9223372036854775807
def z0 : Val := ⟨0, 0, []⟩
theorem gv_at {l : List Val} {i : Nat} (h : i < l.length) : l[i] = l.getD i z0 := by simp [List.getD, h]
def tyB (t : UInt8) : Bool := decide (t = 1) || (decide (t = 2) || decide (t = 3))
theorem tyB_cases {t : UInt8} (h : tyB t = true) : t = 1 ∨ t = 2 ∨ t = 3 := by simpa [tyB] using h
def fv (n : Nat) : Value := .func (.func n) #[] #[]
def lks : List Value := [.int .u8 1, .int .u8 2, .int .u8 3]
def lcs : List D := [.agg [.v (fv 35), .v (fv 36)], .agg [.v (fv 37), .v (fv 38)], .agg [.v (fv 39), .v (fv 40)]]
theorem pu_lcs : ∀ c ∈ lcs, Pure' c := pu_cons (.agg _ (pu_vs rfl)) (pu_cons (.agg _ (pu_vs rfl)) (pu_cons (.agg _ (pu_vs rfl)) pu_nil))
set_option maxHeartbeats 4000000 in
theorem lay_c : Fun Try.prog 23 [] (· = .mp lks lcs) := by
  refine Fun.of Try.func23 rfl (Nat.le_of_ble_eq_true rfl) fun C => ?_
  refine WC.seq fun Fh1_ h1_ => ?_
  refine WC.region ?_
  refine RG.op _ _ rfl rfl (o_assign (.v _) rfl) ?_
  refine RG.nil (h1_ _ ?_)
  refine WC.seq fun Fh2_ h2_ => ?_
  refine WC.region ?_
  refine RG.op _ _ rfl rfl (o_makeMap trivial) ?_
  refine RG.op _ _ rfl rfl (o_build (cs := [(.v _), (.v _)]) Try.underlying51 Ty.inf51 (Ty.pl51 Try.underlying51) rfl) ?_
  refine RG.op _ _ rfl rfl (o_insert (d := (.agg [_, _])) rfl rfl rfl Try.underlying53 Try.underlying5 rfl rfl rfl rfl) ?_
  refine RG.op _ _ rfl rfl (o_build (cs := [(.v _), (.v _)]) Try.underlying51 Ty.inf51 (Ty.pl51 Try.underlying51) rfl) ?_
  refine RG.op _ _ rfl rfl (o_insert (d := (.agg [_, _])) rfl rfl rfl Try.underlying53 Try.underlying5 rfl rfl rfl rfl) ?_
  refine RG.op _ _ rfl rfl (o_build (cs := [(.v _), (.v _)]) Try.underlying51 Ty.inf51 (Ty.pl51 Try.underlying51) rfl) ?_
  refine RG.op _ _ rfl rfl (o_insert (d := (.agg [_, _])) rfl rfl rfl Try.underlying53 Try.underlying5 rfl rfl rfl rfl) ?_
  refine RG.op _ _ rfl rfl (o_move (.omp _ _) rfl) ?_
  refine RG.op _ _ rfl rfl (o_assign (.omp _ _) rfl) ?_
  refine RG.nil (h2_ _ ?_)
  refine WC.ret ?_
  exact Ends.r1 rfl (.tmp _ (.omp _ _) rfl) (Frz.map lks lcs rfl rfl rfl rfl pu_lcs) (rfl)
def lpv (c : UInt8) : Value := if c = 1 then fv 35 else if c = 2 then fv 37 else if c = 3 then fv 39 else .nilFunc
def lgv (c : UInt8) : Value := if c = 1 then fv 36 else if c = 2 then fv 38 else if c = 3 then fv 40 else .nilFunc
theorem lv_one (c : UInt8) : ([D.v (lpv c), D.v (lgv c)].all oneD) = true := by
  unfold lpv lgv
  by_cases h1 : c = 1
  · rw [if_pos h1, if_pos h1]; rfl
  · rw [if_neg h1, if_neg h1]
    by_cases h2 : c = 2
    · rw [if_pos h2, if_pos h2]; rfl
    · rw [if_neg h2, if_neg h2]
      by_cases h3 : c = 3
      · rw [if_pos h3, if_pos h3]; rfl
      · rw [if_neg h3, if_neg h3]; rfl
section
variable {C : Ctx} {env : Nat → D} {H : Heap} {dst : Option Nat} {ty : TypeId} {pos : String} {after : Array Edge} {gu : Option (Nat × Bool)} {X Y : Operand}
theorem lay_miss {c : UInt8} (h1 : c ≠ 1) (h2 : c ≠ 2) (h3 : c ≠ 3) : kFind (.int .u8) (.int .u8 (c.toNat : Int)) lks 0 = some none := by
  have e : ∀ n : UInt8, c ≠ n → ((c.toNat : Int) == (n.toNat : Int)) = false := fun n hn => beq_false_of_ne fun he => hn (UInt8.toNat_inj.1 (Int.ofNat_inj.1 he))
  have a1 : ((c.toNat : Int) == 1) = false := e 1 h1
  have a2 : ((c.toNat : Int) == 2) = false := e 2 h2
  have a3 : ((c.toNat : Int) == 3) = false := e 3 h3
  unfold lks
  simp [kFind, Instr.sameNow, a1, a2, a3]
theorem layLook_c {c : UInt8} (hx : ev env X = .mp lks lcs) (hy : ev env Y = B8 c) : OpD Try.prog C ⟨dst, .lookup 53 X Y true, ty, pos, after, gu⟩ env H (.tup [.agg [.v (lpv c), .v (lgv c)], Bo (tyB c)]) H := by
  by_cases h1 : c = 1
  · subst h1; exact o_lookup_hit 0 hx hy Try.underlying53 Try.underlying5 rfl rfl rfl
  by_cases h2 : c = 2
  · subst h2; exact o_lookup_hit 1 hx hy Try.underlying53 Try.underlying5 rfl rfl rfl
  by_cases h3 : c = 3
  · subst h3; exact o_lookup_hit 2 hx hy Try.underlying53 Try.underlying5 rfl rfl rfl
  have hm := miss_sub (o_lookup_miss (P := Try.prog) (C := C) (env := env) (H := H) (dst := dst) (ty := ty) (pos := pos) (after := after) (gu := gu) (ok := true) hx hy Try.underlying53 Try.underlying5 rfl (z_of Ty.inf51) (lay_miss h1 h2 h3))
  have e1 : lpv c = .nilFunc := by unfold lpv; rw [if_neg h1, if_neg h2, if_neg h3]
  have e2 : lgv c = .nilFunc := by unfold lgv; rw [if_neg h1, if_neg h2, if_neg h3]
  have e3 : tyB c = false := by unfold tyB; rw [decide_eq_false h1, decide_eq_false h2, decide_eq_false h3]; rfl
  rw [e1, e2, e3]
  exact hm
end
theorem fill_null {acc : List Val} {k n : Nat} (h : k < n) : acc ++ List.replicate (n - k) z0 = (acc ++ [z0]) ++ List.replicate (n - (k + 1)) z0 := by
  rw [show n - k = (n - (k + 1)) + 1 by omega, List.replicate_succ]; simp
theorem flen (l : List Val) : (l.flatMap vc).length = l.length * 3 := flatMap_len vc_len l
theorem fill_val {acc : List Val} {k n : Nat} (h : k < n) (hl : acc.length = k) (v : Val) : spl ((acc ++ List.replicate (n - k) z0).flatMap vc) (0 + k * 3) (vc v) = ((acc ++ [v]) ++ List.replicate (n - (k + 1)) z0).flatMap vc := by
  rw [fill_null h]
  simp only [List.flatMap_append, List.flatMap_cons, List.flatMap_nil, List.append_nil]
  exact spl_mid (by rw [flen, hl]; omega) rfl
theorem zs_vals {zv : Value} (hz : zv.cells.toList = [.int .u8 0, .int .i64 0, .string (strB [])]) : ∀ n : Nat, (zeros zv (n * 3) 3).map D.v = (List.replicate n z0).flatMap vc
  | 0 => by simp [zeros]
  | n + 1 => by
    have ih := zs_vals hz n
    unfold zeros at *
    rw [hz] at *
    rw [show (n + 1) * 3 = n * 3 + 1 + 1 + 1 by omega, List.range_succ, List.range_succ, List.range_succ, List.replicate_succ', List.flatMap_append, ← ih]
    simp only [List.map_append, List.map_cons, List.map_nil, List.append_assoc]
    rw [show n * 3 % 3 = 0 by omega, show (n * 3 + 1) % 3 = 1 by omega, show (n * 3 + 1 + 1) % 3 = 2 by omega]
    rfl
theorem fillK {pre : List Val} {k n : Nat} (h : k < n) (hl : pre.length = k) (x : UInt8) : spl ((pre ++ List.replicate (n - k) z0).flatMap vc) (0 + k * 3 + 0) [B8 x] = ((pre ++ [(⟨x, 0, []⟩ : Val)]) ++ List.replicate (n - (k + 1)) z0).flatMap vc := by
  rw [fill_null h]
  simp only [List.flatMap_append, List.flatMap_cons, List.flatMap_nil, List.append_nil]
  have e : pre.flatMap vc ++ vc z0 ++ (List.replicate (n - (k + 1)) z0).flatMap vc = pre.flatMap vc ++ [B8 0] ++ ([I64 0, S []] ++ (List.replicate (n - (k + 1)) z0).flatMap vc) := by simp [vc, z0]
  rw [e, spl_mid (B := [B8 0]) (E := [B8 x]) (by rw [flen, hl]; omega) rfl]; simp [vc]
theorem fillI {pre : List Val} {k n : Nat} {x : UInt8} (hl : pre.length = k) (y : Int) : spl (((pre ++ [(⟨x, 0, []⟩ : Val)]) ++ List.replicate (n - (k + 1)) z0).flatMap vc) (0 + k * 3 + 1) [I64 y] = ((pre ++ [(⟨x, y, []⟩ : Val)]) ++ List.replicate (n - (k + 1)) z0).flatMap vc := by
  simp only [List.flatMap_append, List.flatMap_cons, List.flatMap_nil, List.append_nil]
  have e : pre.flatMap vc ++ vc (⟨x, 0, []⟩ : Val) ++ (List.replicate (n - (k + 1)) z0).flatMap vc = (pre.flatMap vc ++ [B8 x]) ++ [I64 0] ++ ([S []] ++ (List.replicate (n - (k + 1)) z0).flatMap vc) := by simp [vc]
  rw [e, spl_mid (B := [I64 0]) (E := [I64 y]) (by rw [List.length_append, flen, hl]; show 0 + k * 3 + 1 = k * 3 + 1; omega) rfl]; simp [vc]
abbrev VL (r : List Val × Nat) : D := .tup [rdV r.1, I64 r.2]
def trM (l : List Val) : List Bool := l.map fun v => decide (v.i = 1)
def nuM (l : List Val) : List Int := l.map fun v => v.i
theorem trM_len (l : List Val) : (trM l).length = l.length := List.length_map _
theorem nuM_len (l : List Val) : (nuM l).length = l.length := List.length_map _
theorem trM_take {l : List Val} {k : Nat} (h : k < l.length) : trM (l.take (k + 1)) = trM (l.take k) ++ [decide (l[k].i = 1)] := by rw [List.take_succ_eq_append_getElem h]; unfold trM; rw [List.map_append]; rfl
theorem nuM_take {l : List Val} {k : Nat} (h : k < l.length) : nuM (l.take (k + 1)) = nuM (l.take k) ++ [l[k].i] := by rw [List.take_succ_eq_append_getElem h]; unfold nuM; rw [List.map_append]; rfl
set_option maxHeartbeats 4000000 in
theorem pbools_c (l : List Val) (hl : l.length ≤ 1099511627775) : Fun Try.prog 35 [rdV l] (· = rdB (bitsM (trM l))) := by
  have htl := trM_len l
  refine Fun.of Try.func35 rfl (Nat.le_of_ble_eq_true rfl) fun C => ?_
  refine WC.seq fun Fh1_ h1_ => ?_
  refine WC.region ?_
  refine RG.op _ _ rfl rfl (o_assign (.v _) rfl) ?_
  refine RG.nil (h1_ _ ?_)
  refine WC.seq fun Fh2_ h2_ => ?_
  refine WC.region ?_
  refine RG.op _ _ rfl rfl (o_move (.rd _ _) rfl) ?_
  refine RG.op _ _ rfl rfl (o_len_rd rfl Try.underlying22) ?_
  refine RG.op _ _ rfl rfl (o_makeT l.length l.length l.length rfl rfl Try.underlying55 Ty.inf4 rfl rfl (by first | omega | exact ubyte _ | (simp only [LS] <;> omega)) (by first | omega | exact ubyte _ | (simp only [LS] <;> omega)) (by first | omega | exact ubyte _ | (simp only [LS] <;> omega)) (by first | omega | exact ubyte _ | (simp only [LS] <;> omega)) (by first | omega | exact ubyte _ | (simp only [LS] <;> omega))) ?_
  refine RG.op _ _ rfl rfl (o_assign (.own _ _ _ _ _) rfl) ?_
  refine RG.nil (h2_ _ ?_)
  refine WC.seq fun Fh3_ h3_ => ?_
  refine WC.seq fun Fh4_ h4_ => ?_
  refine WC.region ?_
  refine RG.op _ _ rfl rfl (o_move (.rd _ _) rfl) ?_
  refine RG.op _ _ rfl rfl (o_len_rd rfl Try.underlying22) ?_
  refine RG.op _ _ rfl rfl (o_move (.v _) rfl) ?_
  refine RG.nil (h4_ _ ?_)
  refine WC.block ?_
  refine WC.loopU [4, 5, 11, 12, 13, 14, 15, 16, 17, 18, 19, 20, 21, 22] (fun (k : Nat) => [(11, I64 ((k : Nat) : Int))]) (fun (k : Nat) => [(0, tb 4 l.length ((trM (l.take k) ++ List.replicate (l.length - k) false).map Bo))]) (fun (k : Nat) => k ≤ l.length) (fun (k : Nat) => l.length - k) 0 (by first | omega | exact ubyte _ | (simp only [LS] <;> omega)) ?lpa5_ ?lpb6_
  case lpa5_ =>
    exact .mk' ⟨⟨rfl, .v _⟩, trivial⟩ (same_refl _ _) (congrArg (fun c => [c]) (tb_eq rfl ((zs1 rfl l.length).trans (by simp [trM])))) (by repeat (first | exact trivial | refine And.intro (Nat.le_refl _) ?_ | refine And.intro trivial ?_ | refine And.intro (by show _ ≤ _; (first | omega | (simp only [LS] <;> omega))) ?_)) (by repeat (first | exact trivial | refine And.intro (one_ok (.own _ _ _ _ _ (Nat.le_refl _))) ?_ | refine And.intro (okp (by repeat (first | exact pu_bytes _ | exact pu_nil | exact pu_vs rfl | exact pu_map (fun _ => .v _) _ | exact pu_vals _ | refine pu_app ?_ ?_ | refine pu_cons (by exact pu_of rfl) ?_))) ?_))
  case lpb6_ =>
    rintro k hI
    have hml := trM_len (l.take k)
    rw [List.length_take] at hml
    refine WC.seq fun Fh7_ h7_ => ?_
    refine WC.region ?_
    refine RG.op _ _ rfl rfl (o_ltI rfl rfl) ?_
    refine RG.nil (h7_ _ ?_)
    refine WC.seq fun Fh8_ h8_ => ?_
    refine WC.cond _ rfl (fun c3 => ?_) (fun c3 => ?_)
    ·
      have p3 := c3
      try simp only [CN] at p3
      have hkl : k < l.length := by omega
      refine WC.skip (h8_ _ ?_)
      refine WC.seq fun Fh9_ h9_ => ?_
      refine WC.block ?_
      refine WC.seq fun Fh10_ h10_ => ?_
      refine WC.region ?_
      refine RG.op _ _ rfl rfl (o_move (.v _) rfl) ?_
      refine RG.op _ _ rfl rfl (o_ixn_L k vc_len rfl rfl rfl Try.underlying22 (sz_of Ty.inf36) (by first | omega | exact ubyte _ | (simp only [LS] <;> omega)) (by first | omega | exact ubyte _ | (simp only [LS] <;> omega))) ?_
      refine RG.op _ _ rfl rfl (o_load_adr_L (xs := [_, _, _]) rfl Try.underlying36 rfl (sz_of Ty.inf36) rfl) ?_
      refine RG.op _ _ rfl rfl (o_alloc (z_of Ty.inf36) rfl) ?_
      refine RG.op _ _ rfl rfl (o_assign (.v _) rfl) ?_
      refine RG.op _ _ rfl rfl (o_store (d := (.agg [_, _, _])) rfl rfl rfl rfl (sz_of Ty.inf36) (Nat.le_of_ble_eq_true rfl) rfl) ?_
      refine RG.nil (h10_ _ ?_)
      refine WC.region ?_
      refine RG.op _ _ rfl rfl (o_move (.own _ _ _ _ _) rfl) ?_
      refine RG.op _ _ rfl rfl (o_move (.v _) rfl) ?_
      refine RG.op _ _ rfl rfl (o_fld_ptr rfl Try.underlying36 rfl (sz_of Ty.inf2) (by decide)) ?_
      refine RG.op _ _ rfl rfl (o_load_ptr rfl Try.underlying2 rfl rfl rfl rfl) ?_
      refine RG.op _ _ rfl rfl (o_eqI rfl rfl) ?_
      refine RG.op _ _ rfl rfl (o_ixn_own k rfl rfl Try.underlying55 (sz_of Ty.inf4) (by omega) (by omega)) ?_
      refine RG.op _ _ rfl rfl (o_store (d := .v _) rfl rfl rfl rfl (sz_of Ty.inf4) (by show 0 + k * 1 + 1 ≤ (List.map Bo _).length; rw [List.length_map, List.length_append, List.length_replicate]; omega) rfl) ?_
      refine RG.nil (h9_ _ ?_)
      refine WC.region ?_
      refine RG.op _ _ rfl rfl (o_add rfl rfl (by first | omega | exact ubyte _ | (simp only [LS] <;> omega)) (by first | omega | exact ubyte _ | (simp only [LS] <;> omega))) ?_
      refine RG.op _ _ rfl rfl (o_move (.v _) rfl) ?_
      refine RG.nil (Exists.intro (k + 1) ⟨by first | omega | (simp only [LS] <;> omega), by first | omega | (simp only [LS] <;> omega), ?_⟩)
      exact .mk' ⟨⟨rfl, .v _⟩, trivial⟩ (by repeat (first | with_reducible exact same_refl _ _ | with_reducible refine same_updO (by with_unfolding_all exact rfl) ?_ | with_reducible refine same_updN ?_ | with_reducible refine same_updL (by with_unfolding_all exact rfl) ?_ | with_reducible refine same_forget (by with_unfolding_all exact rfl) ?_)) (congrArg (fun c => [c]) (tb_eq rfl (by rw [trM_take hkl]; exact fill1 hkl (by omega)))) (by repeat (first | exact trivial | refine And.intro (Nat.le_refl _) ?_ | refine And.intro trivial ?_ | refine And.intro (by show _ ≤ _; (first | omega | (simp only [LS] <;> omega))) ?_)) (by repeat (first | exact trivial | refine And.intro (one_ok (.own _ _ _ _ _ (Nat.le_refl _))) ?_ | refine And.intro (okp (by repeat (first | exact pu_bytes _ | exact pu_nil | exact pu_vs rfl | exact pu_map (fun _ => .v _) _ | exact pu_vals _ | refine pu_app ?_ ?_ | refine pu_cons (by exact pu_of rfl) ?_))) ?_))
    ·
      have p3 := c3
      try simp only [CN] at p3
      refine WC.exit (h3_ _ ?_)
      refine WC.seq fun Fh11_ h11_ => ?_
      have hke : k = l.length := by omega
      subst hke
      refine WC.frz 0 _ [(3, rdO (trM l))] rfl (by repeat (first | exact pu_bytes _ | exact pu_nil | exact pu_vs rfl | exact pu_map (fun _ => .v _) _ | exact pu_vals _ | refine pu_app ?_ ?_ | refine pu_cons (by exact pu_of rfl) ?_)) ⟨.rowE rfl (by first | rfl | omega | simp) (by first | rfl | simp [bytesD]), trivial⟩ ?_
      refine WC.region ?_
      refine RG.op _ _ rfl rfl (o_move (.rd _ _) rfl) ?_
      refine RG.op _ _ rfl rfl (o_call Ty.cal25 (pbits_c _ (by first | omega | exact ubyte _ | (simp only [LS] <;> omega))) ⟨.inl rfl, trivial⟩ (by exact pua rfl)) ?_
      refine RG.op _ _ rfl rfl (o_assign (.rd _ _) rfl) ?_
      refine RG.nil (h11_ _ ?_)
      refine WC.ret ?_
      exact Ends.r1 rfl (.tmp _ (.rd _ _) rfl) (.rd _ _) (rfl)
set_option maxHeartbeats 4000000 in
theorem pints_c (l : List Val) (hl : l.length ≤ 1099511627775) : Fun Try.prog 37 [rdV l] (· = rdB (putI5 (nuM l))) := by
  have htl := nuM_len l
  refine Fun.of Try.func37 rfl (Nat.le_of_ble_eq_true rfl) fun C => ?_
  refine WC.seq fun Fh1_ h1_ => ?_
  refine WC.region ?_
  refine RG.op _ _ rfl rfl (o_assign (.v _) rfl) ?_
  refine RG.nil (h1_ _ ?_)
  refine WC.seq fun Fh2_ h2_ => ?_
  refine WC.region ?_
  refine RG.op _ _ rfl rfl (o_move (.rd _ _) rfl) ?_
  refine RG.op _ _ rfl rfl (o_len_rd rfl Try.underlying22) ?_
  refine RG.op _ _ rfl rfl (o_makeT l.length l.length l.length rfl rfl Try.underlying58 Ty.inf2 rfl rfl (by first | omega | exact ubyte _ | (simp only [LS] <;> omega)) (by first | omega | exact ubyte _ | (simp only [LS] <;> omega)) (by first | omega | exact ubyte _ | (simp only [LS] <;> omega)) (by first | omega | exact ubyte _ | (simp only [LS] <;> omega)) (by first | omega | exact ubyte _ | (simp only [LS] <;> omega))) ?_
  refine RG.op _ _ rfl rfl (o_assign (.own _ _ _ _ _) rfl) ?_
  refine RG.nil (h2_ _ ?_)
  refine WC.seq fun Fh3_ h3_ => ?_
  refine WC.seq fun Fh4_ h4_ => ?_
  refine WC.region ?_
  refine RG.op _ _ rfl rfl (o_move (.rd _ _) rfl) ?_
  refine RG.op _ _ rfl rfl (o_len_rd rfl Try.underlying22) ?_
  refine RG.op _ _ rfl rfl (o_move (.v _) rfl) ?_
  refine RG.nil (h4_ _ ?_)
  refine WC.block ?_
  refine WC.loopU [4, 5, 11, 12, 13, 14, 15, 16, 17, 18, 19, 20, 21] (fun (k : Nat) => [(11, I64 ((k : Nat) : Int))]) (fun (k : Nat) => [(0, tb 2 l.length ((nuM (l.take k) ++ List.replicate (l.length - k) 0).map I64))]) (fun (k : Nat) => k ≤ l.length) (fun (k : Nat) => l.length - k) 0 (by first | omega | exact ubyte _ | (simp only [LS] <;> omega)) ?lpa5_ ?lpb6_
  case lpa5_ =>
    exact .mk' ⟨⟨rfl, .v _⟩, trivial⟩ (same_refl _ _) (congrArg (fun c => [c]) (tb_eq rfl ((zs1 rfl l.length).trans (by simp [nuM])))) (by repeat (first | exact trivial | refine And.intro (Nat.le_refl _) ?_ | refine And.intro trivial ?_ | refine And.intro (by show _ ≤ _; (first | omega | (simp only [LS] <;> omega))) ?_)) (by repeat (first | exact trivial | refine And.intro (one_ok (.own _ _ _ _ _ (Nat.le_refl _))) ?_ | refine And.intro (okp (by repeat (first | exact pu_bytes _ | exact pu_nil | exact pu_vs rfl | exact pu_map (fun _ => .v _) _ | exact pu_vals _ | refine pu_app ?_ ?_ | refine pu_cons (by exact pu_of rfl) ?_))) ?_))
  case lpb6_ =>
    rintro k hI
    have hml := nuM_len (l.take k)
    rw [List.length_take] at hml
    refine WC.seq fun Fh7_ h7_ => ?_
    refine WC.region ?_
    refine RG.op _ _ rfl rfl (o_ltI rfl rfl) ?_
    refine RG.nil (h7_ _ ?_)
    refine WC.seq fun Fh8_ h8_ => ?_
    refine WC.cond _ rfl (fun c3 => ?_) (fun c3 => ?_)
    ·
      have p3 := c3
      try simp only [CN] at p3
      have hkl : k < l.length := by omega
      refine WC.skip (h8_ _ ?_)
      refine WC.seq fun Fh9_ h9_ => ?_
      refine WC.block ?_
      refine WC.seq fun Fh10_ h10_ => ?_
      refine WC.region ?_
      refine RG.op _ _ rfl rfl (o_move (.v _) rfl) ?_
      refine RG.op _ _ rfl rfl (o_ixn_L k vc_len rfl rfl rfl Try.underlying22 (sz_of Ty.inf36) (by first | omega | exact ubyte _ | (simp only [LS] <;> omega)) (by first | omega | exact ubyte _ | (simp only [LS] <;> omega))) ?_
      refine RG.op _ _ rfl rfl (o_load_adr_L (xs := [_, _, _]) rfl Try.underlying36 rfl (sz_of Ty.inf36) rfl) ?_
      refine RG.op _ _ rfl rfl (o_alloc (z_of Ty.inf36) rfl) ?_
      refine RG.op _ _ rfl rfl (o_assign (.v _) rfl) ?_
      refine RG.op _ _ rfl rfl (o_store (d := (.agg [_, _, _])) rfl rfl rfl rfl (sz_of Ty.inf36) (Nat.le_of_ble_eq_true rfl) rfl) ?_
      refine RG.nil (h10_ _ ?_)
      refine WC.region ?_
      refine RG.op _ _ rfl rfl (o_move (.own _ _ _ _ _) rfl) ?_
      refine RG.op _ _ rfl rfl (o_move (.v _) rfl) ?_
      refine RG.op _ _ rfl rfl (o_fld_ptr rfl Try.underlying36 rfl (sz_of Ty.inf2) (by decide)) ?_
      refine RG.op _ _ rfl rfl (o_load_ptr rfl Try.underlying2 rfl rfl rfl rfl) ?_
      refine RG.op _ _ rfl rfl (o_ixn_own k rfl rfl Try.underlying58 (sz_of Ty.inf2) (by omega) (by omega)) ?_
      refine RG.op _ _ rfl rfl (o_store (d := .v _) rfl rfl rfl rfl (sz_of Ty.inf2) (by show 0 + k * 1 + 1 ≤ (List.map I64 _).length; rw [List.length_map, List.length_append, List.length_replicate]; omega) rfl) ?_
      refine RG.nil (h9_ _ ?_)
      refine WC.region ?_
      refine RG.op _ _ rfl rfl (o_add rfl rfl (by first | omega | exact ubyte _ | (simp only [LS] <;> omega)) (by first | omega | exact ubyte _ | (simp only [LS] <;> omega))) ?_
      refine RG.op _ _ rfl rfl (o_move (.v _) rfl) ?_
      refine RG.nil (Exists.intro (k + 1) ⟨by first | omega | (simp only [LS] <;> omega), by first | omega | (simp only [LS] <;> omega), ?_⟩)
      exact .mk' ⟨⟨rfl, .v _⟩, trivial⟩ (by repeat (first | with_reducible exact same_refl _ _ | with_reducible refine same_updO (by with_unfolding_all exact rfl) ?_ | with_reducible refine same_updN ?_ | with_reducible refine same_updL (by with_unfolding_all exact rfl) ?_ | with_reducible refine same_forget (by with_unfolding_all exact rfl) ?_)) (congrArg (fun c => [c]) (tb_eq rfl (by rw [nuM_take hkl]; exact fill1 hkl (by omega)))) (by repeat (first | exact trivial | refine And.intro (Nat.le_refl _) ?_ | refine And.intro trivial ?_ | refine And.intro (by show _ ≤ _; (first | omega | (simp only [LS] <;> omega))) ?_)) (by repeat (first | exact trivial | refine And.intro (one_ok (.own _ _ _ _ _ (Nat.le_refl _))) ?_ | refine And.intro (okp (by repeat (first | exact pu_bytes _ | exact pu_nil | exact pu_vs rfl | exact pu_map (fun _ => .v _) _ | exact pu_vals _ | refine pu_app ?_ ?_ | refine pu_cons (by exact pu_of rfl) ?_))) ?_))
    ·
      have p3 := c3
      try simp only [CN] at p3
      refine WC.exit (h3_ _ ?_)
      refine WC.seq fun Fh11_ h11_ => ?_
      have hke : k = l.length := by omega
      subst hke
      refine WC.frz 0 _ [(3, rdI (nuM l))] rfl (by repeat (first | exact pu_bytes _ | exact pu_nil | exact pu_vs rfl | exact pu_map (fun _ => .v _) _ | exact pu_vals _ | refine pu_app ?_ ?_ | refine pu_cons (by exact pu_of rfl) ?_)) ⟨.rowE rfl (by first | rfl | omega | simp) (by first | rfl | simp [bytesD]), trivial⟩ ?_
      refine WC.region ?_
      refine RG.op _ _ rfl rfl (o_move (.rd _ _) rfl) ?_
      refine RG.op _ _ rfl rfl (o_call Ty.cal52 (iputs_c _ (by first | omega | exact ubyte _ | (simp only [LS] <;> omega))) ⟨.inl rfl, trivial⟩ (by exact pua rfl)) ?_
      refine RG.op _ _ rfl rfl (o_assign (.rd _ _) rfl) ?_
      refine RG.nil (h11_ _ ?_)
      refine WC.ret ?_
      exact Ends.r1 rfl (.tmp _ (.rd _ _) rfl) (.rd _ _) (rfl)
/-! ### Truths and numbers got -/
def vB (s : Bool) : Val := ⟨1, if s then 1 else 0, []⟩
def vI (n : Int) : Val := ⟨2, n, []⟩
def getBl (b : List UInt8) (n : Nat) : List Val × Nat := if (getB b n).2.2 = 0 then (if (getB b n).2.1 < b.length then ([], 21) else ((getB b n).1.map vB, 0)) else ([], (getB b n).2.2)
def getIl (b : List UInt8) (n : Nat) : List Val × Nat := if (getI5 b n).2 = 0 then ((nS (getI5 b n).1).2.2.map vI, 0) else ([], (getI5 b n).2)
theorem getB_len {b : List UInt8} {n : Nat} (h : (getB b n).2.2 = 0) : (getB b n).1.length = n ∧ (getB b n).2.1 ≤ b.length := by
  unfold getB at h ⊢
  split
  · rename_i e; rw [if_pos e] at h; cases h
  · rename_i e; rw [if_neg e] at h
    split
    · rename_i e; rw [if_pos e] at h; cases h
    · exact ⟨bitsOf_len b n, by show (n + 7) / 8 ≤ b.length; omega⟩
set_option maxHeartbeats 4000000 in
theorem gbools_c (b : List UInt8) (n : Nat) (hb : b.length ≤ 10995116277760) (hn : n ≤ 65536) : Fun Try.prog 36 [rdB b, I64 ((n : Nat) : Int)] (· = VL (getBl b n)) := by
  refine Fun.of Try.func36 rfl (Nat.le_of_ble_eq_true rfl) fun C => ?_
  refine WC.seq fun Fh1_ h1_ => ?_
  refine WC.region ?_
  refine RG.op _ _ rfl rfl (o_assign (.v _) rfl) ?_
  refine RG.op _ _ rfl rfl (o_assign (.v _) rfl) ?_
  refine RG.nil (h1_ _ ?_)
  refine WC.seq fun Fh2_ h2_ => ?_
  refine WC.region ?_
  refine RG.op _ _ rfl rfl (o_move (.rd _ _) rfl) ?_
  refine RG.op _ _ rfl rfl (o_move (.v _) rfl) ?_
  refine RG.op _ _ rfl rfl ((by exact o_call (ds := [rdB b, I64 (n : Nat)]) Ty.cal29 (getbits_c b n hb (by omega)) ⟨.inl rfl, .inl rfl, trivial⟩ (by exact pua rfl))) ?_
  refine RG.op _ _ rfl rfl (o_move (.tup _) rfl) ?_
  refine RG.op _ _ rfl rfl (o_extract rfl rfl) ?_
  refine RG.op _ _ rfl rfl (o_extract rfl rfl) ?_
  refine RG.op _ _ rfl rfl (o_extract rfl rfl) ?_
  refine RG.op _ _ rfl rfl (o_assign (.rd _ _) rfl) ?_
  refine RG.op _ _ rfl rfl (o_assign (.v _) rfl) ?_
  refine RG.op _ _ rfl rfl (o_assign (.v _) rfl) ?_
  refine RG.nil (h2_ _ ?_)
  refine WC.seq fun Fh3_ h3_ => ?_
  refine WC.seq fun Fh4_ h4_ => ?_
  refine WC.region ?_
  refine RG.op _ _ rfl rfl (o_move (.v _) rfl) ?_
  refine RG.op _ _ rfl rfl (o_neI rfl rfl) ?_
  refine RG.nil (h4_ _ ?_)
  refine WC.cond _ rfl (fun c2 => ?_) (fun c2 => ?_)
  ·
    have p2 := c2
    try simp only [CN] at p2
    refine WC.seq fun Fh5_ h5_ => ?_
    refine WC.region ?_
    refine RG.op _ _ rfl rfl (o_move (.v _) rfl) ?_
    refine RG.op _ _ rfl rfl (o_assign (.v _) rfl) ?_
    refine RG.op _ _ rfl rfl (o_assign (.v _) rfl) ?_
    refine RG.nil (h5_ _ ?_)
    refine WC.ret ?_
    exact Ends.r2 rfl (.tmp _ (.v _) rfl) (.tmp _ (.v _) rfl) .nilr (.v _) (by unfold getBl; rw [if_neg (by omega)]; rfl)
  ·
    have p2 := c2
    try simp only [CN] at p2
    have h0 : (getB b n).2.2 = 0 := by omega
    have hgl := getB_len h0
    have hgl1 := hgl.1
    refine WC.skip (h3_ _ ?_)
    refine WC.seq fun Fh6_ h6_ => ?_
    refine WC.seq fun Fh7_ h7_ => ?_
    refine WC.region ?_
    refine RG.op _ _ rfl rfl (o_move (.v _) rfl) ?_
    refine RG.op _ _ rfl rfl (o_move (.rd _ _) rfl) ?_
    refine RG.op _ _ rfl rfl (o_len_rd rfl Try.underlying24) ?_
    refine RG.op _ _ rfl rfl (o_ltI rfl rfl) ?_
    refine RG.nil (h7_ _ ?_)
    refine WC.cond _ rfl (fun c4 => ?_) (fun c4 => ?_)
    ·
      have p4 := c4
      try simp only [CN] at p4
      refine WC.seq fun Fh8_ h8_ => ?_
      refine WC.region ?_
      refine RG.op _ _ rfl rfl (o_assign (.v _) rfl) ?_
      refine RG.op _ _ rfl rfl (o_assign (.v _) rfl) ?_
      refine RG.nil (h8_ _ ?_)
      refine WC.ret ?_
      exact Ends.r2 rfl (.tmp _ (.v _) rfl) (.tmp _ (.v _) rfl) .nilr (.v _) (by unfold getBl; rw [if_pos h0, if_pos (by omega)]; rfl)
    ·
      have p4 := c4
      try simp only [CN] at p4
      refine WC.skip (h6_ _ ?_)
      refine WC.seq fun Fh9_ h9_ => ?_
      refine WC.region ?_
      refine RG.op _ _ rfl rfl (o_move (.v _) rfl) ?_
      refine RG.op _ _ rfl rfl (o_makeT n n n rfl rfl Try.underlying22 Ty.inf36 rfl rfl (by omega) (by omega) (by omega) (by omega) (by omega)) ?_
      refine RG.op _ _ rfl rfl (o_assign (.own _ _ _ _ _) rfl) ?_
      refine RG.nil (h9_ _ ?_)
      refine WC.seq fun Fh10_ h10_ => ?_
      refine WC.seq fun Fh11_ h11_ => ?_
      refine WC.region ?_
      refine RG.op _ _ rfl rfl (o_move (.rd _ _) rfl) ?_
      refine RG.op _ _ rfl rfl (o_len_rd rfl Try.underlying55) ?_
      refine RG.op _ _ rfl rfl (o_move (.v _) rfl) ?_
      refine RG.nil (h11_ _ ?_)
      refine WC.block ?_
      refine WC.loopU [10, 11, 30, 31, 32, 33, 34, 35, 36, 37, 38, 39, 40, 41, 42, 43, 44] (fun (k : Nat) => [(30, I64 ((k : Nat) : Int))]) (fun (k : Nat) => [(0, tb 36 n ((((getB b n).1.take k).map vB ++ List.replicate (n - k) z0).flatMap vc))]) (fun (k : Nat) => k ≤ n) (fun (k : Nat) => n - k) 0 (by first | omega | exact ubyte _ | (simp only [LS] <;> omega)) ?lpa12_ ?lpb13_
      case lpa12_ =>
        exact .mk' ⟨⟨rfl, .v _⟩, trivial⟩ (same_refl _ _) (congrArg (fun c => [c]) (tb_eq rfl (zs_vals rfl _))) (by repeat (first | exact trivial | refine And.intro (Nat.le_refl _) ?_ | refine And.intro trivial ?_ | refine And.intro (by show _ ≤ _; (first | omega | (simp only [LS] <;> omega))) ?_)) (by repeat (first | exact trivial | refine And.intro (one_ok (.own _ _ _ _ _ (Nat.le_refl _))) ?_ | refine And.intro (okp (by repeat (first | exact pu_bytes _ | exact pu_nil | exact pu_vs rfl | exact pu_map (fun _ => .v _) _ | exact pu_vals _ | refine pu_app ?_ ?_ | refine pu_cons (by exact pu_of rfl) ?_))) ?_))
      case lpb13_ =>
        rintro k hI
        refine WC.seq fun Fh14_ h14_ => ?_
        refine WC.region ?_
        refine RG.op _ _ rfl rfl (o_ltI rfl rfl) ?_
        refine RG.nil (h14_ _ ?_)
        refine WC.seq fun Fh15_ h15_ => ?_
        refine WC.cond _ rfl (fun c8 => ?_) (fun c8 => ?_)
        ·
          have p8 := c8
          try simp only [CN] at p8
          have hkn : k < n := by omega
          have hst : ((getB b n).1.take (k + 1)).map vB = ((getB b n).1.take k).map vB ++ [vB ((getB b n).1[k]'(by omega))] := by rw [List.take_succ_eq_append_getElem (by omega), List.map_append]; rfl
          have hpl : (((getB b n).1.take k).map vB).length = k := by rw [List.length_map, List.length_take]; omega
          refine WC.skip (h15_ _ ?_)
          refine WC.seq fun Fh16_ h16_ => ?_
          refine WC.block ?_
          refine WC.seq fun Fh17_ h17_ => ?_
          refine WC.region ?_
          refine RG.op _ _ rfl rfl (o_move (.v _) rfl) ?_
          refine RG.op _ _ rfl rfl (o_ixn_M k rfl rfl Try.underlying55 (sz_of Ty.inf4) (by first | omega | exact ubyte _ | (simp only [LS] <;> omega)) (by first | omega | exact ubyte _ | (simp only [LS] <;> omega))) ?_
          refine RG.op _ _ rfl rfl (o_load_adr rfl Try.underlying4 rfl rfl) ?_
          refine RG.op _ _ rfl rfl (o_assign (.v _) rfl) ?_
          refine RG.op _ _ rfl rfl (o_assign (.v _) rfl) ?_
          refine RG.nil (h17_ _ ?_)
          refine WC.seq fun Fh18_ h18_ => ?_
          refine WC.region ?_
          refine RG.op _ _ rfl rfl (o_move (.own _ _ _ _ _) rfl) ?_
          refine RG.op _ _ rfl rfl (o_move (.v _) rfl) ?_
          refine RG.op _ _ rfl rfl (o_ixn_own k rfl rfl Try.underlying22 (sz_of Ty.inf36) (by omega) (by omega)) ?_
          refine RG.op _ _ rfl rfl (o_fld_ptr rfl Try.underlying36 rfl (sz_of Ty.inf5) (by decide)) ?_
          refine RG.op _ _ rfl rfl (o_store (d := B8 1) rfl rfl rfl rfl (sz_of Ty.inf5) (by show 0 + k * 3 + 0 + 1 ≤ (List.flatMap vc _).length; rw [flen, List.length_append, List.length_map, List.length_take, List.length_replicate]; omega) rfl) ?_
          refine RG.nil (h18_ _ ?_)
          refine WC.seq fun Fh19_ h19_ => ?_
          refine WC.region ?_
          refine RG.op _ _ rfl rfl (o_move (.v _) rfl) ?_
          refine RG.nil (h19_ _ ?_)
          refine WC.cond _ rfl (fun c11 => ?_) (fun c11 => ?_)
          ·
            have p11 := c11
            try simp only [CN] at p11
            refine WC.region ?_
            refine RG.op _ _ rfl rfl (o_move (.own _ _ _ _ _) rfl) ?_
            refine RG.op _ _ rfl rfl (o_move (.v _) rfl) ?_
            refine RG.op _ _ rfl rfl (o_ixn_own k rfl rfl Try.underlying22 (sz_of Ty.inf36) (by omega) (by omega)) ?_
            refine RG.op _ _ rfl rfl (o_fld_ptr rfl Try.underlying36 rfl (sz_of Ty.inf2) (by decide)) ?_
            refine RG.op _ _ rfl rfl (o_store (d := I64 1) rfl rfl rfl rfl (sz_of Ty.inf2) (by refine Nat.le_trans ?_ (Nat.le_of_eq (congrArg List.length (fillK (n := n) hkn hpl 1)).symm); show 0 + k * 3 + 1 + 1 ≤ _; rw [flen, List.length_append, List.length_append, List.length_replicate, hpl]; simp only [List.length_singleton]; omega) rfl) ?_
            refine RG.nil (h16_ _ ?_)
            refine WC.region ?_
            refine RG.op _ _ rfl rfl (o_add rfl rfl (by first | omega | exact ubyte _ | (simp only [LS] <;> omega)) (by first | omega | exact ubyte _ | (simp only [LS] <;> omega))) ?_
            refine RG.op _ _ rfl rfl (o_move (.v _) rfl) ?_
            refine RG.nil (Exists.intro (k + 1) ⟨by first | omega | (simp only [LS] <;> omega), by first | omega | (simp only [LS] <;> omega), ?_⟩)
            exact .mk' ⟨⟨rfl, .v _⟩, trivial⟩ (by repeat (first | with_reducible exact same_refl _ _ | with_reducible refine same_updO (by with_unfolding_all exact rfl) ?_ | with_reducible refine same_updN ?_ | with_reducible refine same_updL (by with_unfolding_all exact rfl) ?_ | with_reducible refine same_forget (by with_unfolding_all exact rfl) ?_)) (congrArg (fun c => [c]) (tb_eq rfl ((congrArg (fun X => spl X (0 + k * 3 + 1) [I64 1]) (fillK hkn hpl 1)).trans ((fillI hpl 1).trans (by rw [hst, show _ = true from c11]; rfl))))) (by repeat (first | exact trivial | refine And.intro (Nat.le_refl _) ?_ | refine And.intro trivial ?_ | refine And.intro (by show _ ≤ _; (first | omega | (simp only [LS] <;> omega))) ?_)) (by repeat (first | exact trivial | refine And.intro (one_ok (.own _ _ _ _ _ (Nat.le_refl _))) ?_ | refine And.intro (okp (by repeat (first | exact pu_bytes _ | exact pu_nil | exact pu_vs rfl | exact pu_map (fun _ => .v _) _ | exact pu_vals _ | refine pu_app ?_ ?_ | refine pu_cons (by exact pu_of rfl) ?_))) ?_))
          ·
            have p11 := c11
            try simp only [CN] at p11
            refine WC.skip (h16_ _ ?_)
            refine WC.region ?_
            refine RG.op _ _ rfl rfl (o_add rfl rfl (by first | omega | exact ubyte _ | (simp only [LS] <;> omega)) (by first | omega | exact ubyte _ | (simp only [LS] <;> omega))) ?_
            refine RG.op _ _ rfl rfl (o_move (.v _) rfl) ?_
            refine RG.nil (Exists.intro (k + 1) ⟨by first | omega | (simp only [LS] <;> omega), by first | omega | (simp only [LS] <;> omega), ?_⟩)
            exact .mk' ⟨⟨rfl, .v _⟩, trivial⟩ (by repeat (first | with_reducible exact same_refl _ _ | with_reducible refine same_updO (by with_unfolding_all exact rfl) ?_ | with_reducible refine same_updN ?_ | with_reducible refine same_updL (by with_unfolding_all exact rfl) ?_ | with_reducible refine same_forget (by with_unfolding_all exact rfl) ?_)) (congrArg (fun c => [c]) (tb_eq rfl ((fillK hkn hpl 1).trans (by rw [hst, show _ = false from c11]; rfl)))) (by repeat (first | exact trivial | refine And.intro (Nat.le_refl _) ?_ | refine And.intro trivial ?_ | refine And.intro (by show _ ≤ _; (first | omega | (simp only [LS] <;> omega))) ?_)) (by repeat (first | exact trivial | refine And.intro (one_ok (.own _ _ _ _ _ (Nat.le_refl _))) ?_ | refine And.intro (okp (by repeat (first | exact pu_bytes _ | exact pu_nil | exact pu_vs rfl | exact pu_map (fun _ => .v _) _ | exact pu_vals _ | refine pu_app ?_ ?_ | refine pu_cons (by exact pu_of rfl) ?_))) ?_))
        ·
          have p8 := c8
          try simp only [CN] at p8
          refine WC.exit (h10_ _ ?_)
          refine WC.seq fun Fh20_ h20_ => ?_
          refine WC.region ?_
          refine RG.op _ _ rfl rfl (o_move (.own _ _ _ _ _) rfl) ?_
          refine RG.op _ _ rfl rfl (o_assign (.own _ _ _ _ _) rfl) ?_
          refine RG.op _ _ rfl rfl (o_assign (.v _) rfl) ?_
          refine RG.nil (h20_ _ ?_)
          refine WC.ret ?_
          exact Ends.r2 rfl (.tmp _ (.own _ _ _ _ _) rfl) (.tmp _ (.v _) rfl) (.tb rfl (by repeat (first | exact pu_bytes _ | exact pu_nil | exact pu_vs rfl | exact pu_map (fun _ => .v _) _ | exact pu_vals _ | refine pu_app ?_ ?_ | refine pu_cons (by exact pu_of rfl) ?_))) (.v _) (by unfold getBl; rw [if_pos h0, if_neg (by omega)]; have e : k = n := (by omega); subst e; exact congrArg (fun c => D.tup [c, I64 0]) (rd_eq (by rw [List.length_map]; omega) (by rw [Nat.sub_self, List.take_of_length_le (by omega)]; simp)))
end Go.Proofs.Ytpdjcfhmdeeikaa
namespace Go.DL
open Go.RowKit
theorem sbits_self (s : ByteArray) : Instr.sameBits 10000 (.string s) (.string s) = true := by
  obtain ⟨d⟩ := s
  show (d == d) = true
  exact beq_self_eq_true d
theorem str_beq (a b : List UInt8) : (strB a == strB b) = (a == b) := by
  show (a.toArray == b.toArray) = _
  rw [Bool.eq_iff_iff]; simp
section
variable {P : Program} {C : Ctx} {env : Nat → D} {H : Heap} {dst : Option Nat} {ty t t' e : TypeId} {pos : String} {after : Array Edge} {gu : Option (Nat × Bool)} {X Y Z : Operand}
/-- A new key in a map of the call's own, by an assignment. -/
theorem o_mapNew {id : Nat} {b : Blk} {kt et : TypeId} {kd : TypeDesc} {k : Value} {d : D} (hx : ev env X = .omp id 0) (hy : ev env Y = .v k) (hz : ev env Z = d) (ht : P.underlying t = some (.map kt et)) (hk : P.underlying kt = some kd) (hf : flatKey kd = true) (hb : H[id]? = some (some b)) (hv : b.ver = 0) (hj : kFind kd k (keysD b.cs) 0 = some none) :
    OpD P C ⟨dst, .mapUpdate t X Y Z, ty, pos, after, gu⟩ env H (.v undef) (H.set id (some { b with cs := b.cs ++ [.tup [.v k, d]] })) := by
  subst hz
  refine OpD.ofSkip (HLe.set hb (Nat.le_refl _)) fun K β a w hw h hk' => ?_
  have h1 := h X (by simp [Op.operands])
  have h2 := h Y (by simp [Op.operands])
  have h3 := h Z (by simp [Op.operands])
  have h4 := hk' Z (by simp [Op.operands])
  rw [hx] at h1; rw [hy] at h2
  obtain ⟨e1, hst⟩ := h1.omp_inv
  rw [← hv] at e1 hst
  obtain ⟨es, ck, hheap, hE⟩ := hw.mapd hb hst
  rw [hE.keys] at hj
  obtain ⟨f1, _⟩ := findNow_of hj
  have hfind : (Instr.findKey kt k es.toList).run P w = .ok none w := by
    simp [Instr.findKey, run_underlying hk, f1]
  have hset : (setObj (β id b.ver).blk (.map (es.push { key := k, val := a.eval Z, born := ck }) (ck + 1))).run P w = .ok () { w with heap := w.heap.setIfInBounds (β id b.ver).blk (.map (es.push { key := k, val := a.eval Z, born := ck }) (ck + 1)) } := by
    simp [setObj, Sem.run, hheap]
  have hlen := hE.len
  refine ⟨K, β, _, ?_, KX.refl _ _, Agr.refl _ _, hw.putO hb (BT.real_ofm hst) (b' := { b with cs := b.cs ++ [.tup [.v k, ev env Z]] }) rfl (.map (es.push { key := k, val := a.eval Z, born := ck }) (ck + 1)) ?_ ?_⟩
  · simp [execOp, e1, h2.v_inv, Instr.mapUpdate, run_underlying ht, run_getMap hheap, run_checkKey' hk hf, hfind, hset]
  · unfold BlkR
    simp only [hst]
    refine ⟨_, _, rfl, by simp [hlen], fun j u d hu hd => ?_, fun i j u v hij hu hv => ?_, fun j u hu => ?_⟩
    · simp only [Array.getElem?_push] at hu
      split at hu
      · rename_i hjs
        subst hjs
        cases hu
        rw [List.getElem?_append_right (by omega)] at hd
        simp [hlen] at hd
        subst hd
        exact ⟨_, rfl, h3⟩
      · have hlt := (Array.getElem?_eq_some_iff.1 hu).1
        rw [List.getElem?_append_left (by omega)] at hd
        exact hE.rd j u d hu hd
    · simp only [Array.getElem?_push] at hu hv
      split at hv
      · cases hv
        split at hu
        · omega
        · exact hE.clock i u hu
      · split at hu
        · have hlt := (Array.getElem?_eq_some_iff.1 hv).1
          omega
        · exact hE.born i j u v hij hu hv
    · simp only [Array.getElem?_push] at hu
      split at hu
      · cases hu; simp
      · have := hE.clock j u hu; omega
  · intro c hc
    rcases List.mem_append.1 hc with h | h
    · exact hw.ok id b hb c h
    · simp at h; subst h; exact .tup _ (by simp; exact ⟨.v _, h4⟩)
/-- A key that is there already: its datum is another now. -/
theorem o_mapSet {id : Nat} {b : Blk} {kt et : TypeId} {s : ByteArray} {d d0 : D} (j : Nat) (hx : ev env X = .omp id 0) (hy : ev env Y = .v (.string s)) (hz : ev env Z = d) (ht : P.underlying t = some (.map kt et)) (hk : P.underlying kt = some .string) (hb : H[id]? = some (some b)) (hv : b.ver = 0) (hj : kFind .string (.string s) (keysD b.cs) 0 = some (some j)) (hd : b.cs[j]? = some (.tup [.v (.string s), d0])) :
    OpD P C ⟨dst, .mapUpdate t X Y Z, ty, pos, after, gu⟩ env H (.v undef) (H.set id (some { b with cs := b.cs.set j (.tup [.v (.string s), d]) })) := by
  subst hz
  refine OpD.ofSkip (HLe.set hb (Nat.le_refl _)) fun K β a w hw h hk' => ?_
  have h1 := h X (by simp [Op.operands])
  have h2 := h Y (by simp [Op.operands])
  have h3 := h Z (by simp [Op.operands])
  have h4 := hk' Z (by simp [Op.operands])
  rw [hx] at h1; rw [hy] at h2
  obtain ⟨e1, hst⟩ := h1.omp_inv
  rw [← hv] at e1 hst
  obtain ⟨es, ck, hheap, hE⟩ := hw.mapd hb hst
  rw [hE.keys] at hj
  obtain ⟨f1, f2⟩ := findNow_of hj
  obtain ⟨_, f3⟩ := f2 j rfl
  rw [Nat.sub_zero] at f3
  have hu : es[j]? = some es[j] := Array.getElem?_eq_getElem (by simpa using f3)
  obtain ⟨dv, e2, hdv⟩ := hE.rd j _ _ hu hd
  have hkey : es[j].key = .string s := by injection e2 with e3; injection e3 with e4 _; injection e4 with e5; exact e5.symm
  have hfind : (Instr.findKey kt (.string s) es.toList).run P w = .ok (some (j, es[j].val)) w := by
    have hl : es.toList[j]? = some es[j] := by rw [Array.getElem?_toList]; exact hu
    simp [Instr.findKey, run_underlying hk, f1, hl, hu]
  have hstay : (Instr.keyThatStays (((es[j]?).map (·.key)).getD (.string s)) (.string s)).run P w = .ok (.string s) w := by
    rw [hu]
    simp only [Option.map_some, Option.getD_some, hkey]
    unfold Instr.keyThatStays
    rw [if_pos (sbits_self s)]
    rfl
  have hset : (setObj (β id b.ver).blk (.map (es.modify j fun e => { e with key := .string s, val := a.eval Z }) ck)).run P w = .ok () { w with heap := w.heap.setIfInBounds (β id b.ver).blk (.map (es.modify j fun e => { e with key := .string s, val := a.eval Z }) ck) } := by
    simp [setObj, Sem.run, hheap]
  have hlen := hE.len
  refine ⟨K, β, _, ?_, KX.refl _ _, Agr.refl _ _, hw.putO hb (BT.real_ofm hst) (b' := { b with cs := b.cs.set j (.tup [.v (.string s), ev env Z]) }) rfl (.map (es.modify j fun e => { e with key := .string s, val := a.eval Z }) ck) ?_ ?_⟩
  · simp only [execOp, e1, h2.v_inv]
    simp [Instr.mapUpdate, run_underlying ht, run_getMap hheap, run_checkKey' hk rfl, hfind, hstay, hset]
  · unfold BlkR
    simp only [hst]
    have hget : ∀ (q : Nat) u, (es.modify j fun e => { e with key := .string s, val := a.eval Z })[q]? = some u → ∃ u0, es[q]? = some u0 ∧ u.born = u0.born ∧ (q ≠ j → u = u0) ∧ (q = j → u.key = .string s ∧ u.val = a.eval Z) := by
      intro q u hq
      rw [Array.getElem?_modify] at hq
      by_cases e : j = q
      · rw [if_pos e] at hq
        obtain ⟨u0, g1, g2⟩ := Option.map_eq_some_iff.1 hq
        subst g2
        exact ⟨u0, g1, rfl, fun hn => absurd e.symm hn, fun _ => ⟨rfl, rfl⟩⟩
      · rw [if_neg e] at hq
        exact ⟨u, hq, rfl, fun _ => rfl, fun hn => absurd hn.symm e⟩
    refine ⟨_, _, rfl, by simp [hlen], fun q u dd hu' hd' => ?_, fun i q u v hij hu' hv' => ?_, fun q u hu' => ?_⟩
    · obtain ⟨u0, g1, _, g3, g4⟩ := hget q u hu'
      by_cases e : q = j
      · obtain ⟨g5, g6⟩ := g4 e
        subst e
        rw [List.getElem?_set_self (by have := (List.getElem?_eq_some_iff.1 hd).1; exact this)] at hd'
        cases hd'
        rw [g5, g6]
        exact ⟨_, rfl, h3⟩
      · rw [List.getElem?_set_ne (Ne.symm e)] at hd'
        rw [g3 e]
        exact hE.rd q u0 dd g1 hd'
    · obtain ⟨u0, g1, g2, _⟩ := hget i u hu'
      obtain ⟨v0, k1, k2, _⟩ := hget q v hv'
      rw [g2, k2]
      exact hE.born i q u0 v0 hij g1 k1
    · obtain ⟨u0, g1, g2, _⟩ := hget q u hu'
      rw [g2]; exact hE.clock q u0 g1
  · intro c hc
    rcases List.mem_or_eq_of_mem_set hc with h | h
    · exact hw.ok id b hb c h
    · subst h; exact .tup _ (by simp; exact ⟨.v _, h4⟩)
/-- How many keys. -/
theorem o_len_omp {id : Nat} {b : Blk} {kt et : TypeId} (hx : ev env X = .omp id 0) (ht : P.underlying t = some (.map kt et)) (hb : H[id]? = some (some b)) (hv : b.ver = 0) : OpD P C ⟨dst, .call { callee := .builtin .len, args := #[X], argTypes := #[t] }, ty, pos, after, gu⟩ env H (I64 b.cs.length) H := by
  refine OpD.same fun K β a w hw hx' _ => ?_
  have h := hx' X (by simp [Op.operands, Call.operands])
  rw [hx] at h
  obtain ⟨e1, hst⟩ := h.omp_inv
  rw [← hv] at e1 hst
  obtain ⟨es, ck, hheap, hE⟩ := hw.mapd hb hst
  exact ⟨.int .i64 (es.size : Nat), by simp [execOp, resolve, invoke, builtin, Builtin.len_, run_underlying ht, e1, run_getMap hheap, goInt], by rw [hE.len]; exact .v _ _, .v _⟩
end
end Go.DL
namespace Go.Proofs.Ytpdjcfhmdeeikaa
open Go.RowKit Go.DL

theorem vget_at {b r : List UInt8} {a u : Nat} (h : b.drop a = encB u ++ r) (hu : u ≤ 18446744073709551615) : (u, (encB u).length, 0) = vget (b.drop a) := by rw [h, vget_enc u r hu]
theorem drop_at {b x r : List UInt8} {a : Nat} (h : b.drop a = x ++ r) : b.drop (a + x.length) = r := by rw [← List.drop_drop, h, List.drop_left]
theorem drop_len {b x : List UInt8} {a : Nat} (h : b.drop a = x) : b.length - a = x.length := by rw [← h, List.length_drop]
theorem runsM_is (l : List Int) : runsM l = runsG (chI l 0 0) 0 0 := runsF_is l 0 0 0 0
theorem runsM_ok (l : List Int) (hl : l.length ≤ 1099511627776) : ∀ p ∈ runsM l, okP p := (runsF_ok l 0 0 0 0 (by omega) (by decide) (by decide)).1
theorem take_enc {b : List UInt8} {a : Nat} {r : Nat × Nat × Nat} (ha : a ≤ b.length) (hr : r = vget (b.drop a)) (h0 : r.2.2 = 0) : a + r.2.1 ≤ b.length ∧ b.take (a + r.2.1) = b.take a ++ encB r.1 := by
  have h := vget_back (b := b.drop a) (x := r.1) (m := r.2.1) (by rw [← hr, ← h0])
  rw [List.length_drop] at h
  refine ⟨by omega, ?_⟩
  rw [List.take_add, h.2.2]
theorem getD_last {c : List Int} {x : Int} (h : c.getLast? = some x) : 0 < c.length ∧ c.getD (c.length - 1) 0 = x := by
  rw [List.getLast?_eq_getElem?] at h
  have hlt := (List.getElem?_eq_some_iff.1 h).1
  exact ⟨by omega, by rw [List.getD_eq_getElem?_getD, h]; rfl⟩
/-- What is got is put as_ just these bytes. -/
theorem gI_back (b : List UInt8) (n : Nat) : ∀ (f a : Nat) (c c' : List Int), (∀ x ∈ c, in64 x) → b.take a = (runsG c 0 0).flatMap encP → a ≤ b.length → c.length ≤ n → gI b n f a c = (c', 0) → (∀ x ∈ c', in64 x) ∧ b = (runsG c' 0 0).flatMap encP ∧ c'.length = n
  | 0, _, _, _, _, _, _, _, h => by
    have := congrArg Prod.snd h
    have : (21 : Nat) = 0 := this
    omega
  | f + 1, a, c, c', hin, ht, ha, hc, h => by
    rw [gI] at h
    split at h
    · split at h
      · have := congrArg Prod.snd h
        have : (21 : Nat) = 0 := this
        omega
      · have e : c = c' := congrArg Prod.fst h
        subst e
        rw [List.take_of_length_le (by omega)] at ht
        exact ⟨hin, ht, by omega⟩
    rename_i e1
    obtain ⟨r, hr⟩ : ∃ r, r = vget (b.drop a) := ⟨_, rfl⟩
    rw [← hr] at h
    obtain ⟨s, hs⟩ : ∃ s, s = vget (b.drop (a + r.2.1)) := ⟨_, rfl⟩
    rw [← hs] at h
    split at h
    · rename_i e; exact absurd (congrArg Prod.snd h) e
    rename_i e2
    split at h
    · have := congrArg Prod.snd h
      have : (21 : Nat) = 0 := this
      omega
    rename_i e3
    split at h
    · rename_i e; exact absurd (congrArg Prod.snd h) e
    rename_i e4
    split at h
    · have := congrArg Prod.snd h
      have : (21 : Nat) = 0 := this
      omega
    rename_i e5
    have e2 : r.2.2 = 0 := Decidable.not_not.1 e2
    have e4 : s.2.2 = 0 := Decidable.not_not.1 e4
    obtain ⟨a1, t1⟩ := take_enc ha hr e2
    obtain ⟨a2, t2⟩ := take_enc a1 hs e4
    have hzb := zag_bnd (u := s.1) (by rw [hs]; exact vget_lt _)
    refine gI_back b n f _ _ c' ?_ ?_ a2 ?_ h
    · intro x hx
      rcases List.mem_append.1 hx with hx | hx
      · exact hin x hx
      · rw [(List.mem_replicate.1 hx).2]; exact hzb
    · rw [runsG_snoc (by omega) _ c 0 0 (fun x hx => by
        rw [List.replicate_zero, List.nil_append] at hx
        obtain ⟨g1, g2⟩ := getD_last hx
        rw [g2] at e5
        exact fun e => e5 ⟨g1, e⟩), t2, t1, ht, List.flatMap_append]
      simp [encP, zig_zag]
    · simp only [List.length_append, List.length_replicate]; omega
theorem put_get {b : List UInt8} {n : Int} (h : (getI5 b n).2 = 0) : ((nS (getI5 b n).1).2.2.length : Int) = n ∧ putI5 (nS (getI5 b n).1).2.2 = b := by
  unfold getI5 at h ⊢
  split at h
  · exact absurd h (by decide)
  rename_i e
  rw [if_neg e]
  obtain ⟨c, hc⟩ : ∃ c, gG b n.toNat 0 [] = (c, 0) := ⟨(gG b n.toNat 0 []).1, Prod.ext rfl h⟩
  rw [hc]
  obtain ⟨h1, h2, h3⟩ := gI_back b n.toNat _ 0 [] c (fun x hx => by simp at hx) rfl (Nat.zero_le _) (Nat.zero_le _) hc
  obtain ⟨h4, h5⟩ := ch_nS h1
  refine ⟨by rw [nS_len]; show (c.length : Int) = n; omega, ?_⟩
  show putI5 (nS c).2.2 = b
  unfold putI5
  rw [runsM_is, h4]; exact h2.symm
/-! ### Even rows -/
theorem putI5_len (l : List Int) (hl : l.length ≤ 1099511627775) : (putI5 l).length ≤ 20 * (l.length + 1) := by
  have h := runsF_ok l 0 0 0 0 (by omega) (by decide) (by decide)
  have h3 : (runsM l).length ≤ l.length + 1 := h.2
  have h1 : ∀ p ∈ runsM l, okP p := h.1
  have h2 := bytesP_len h1 (runsM l).length
  unfold bytesP at h2
  rw [List.take_length] at h2
  have h4 : (putI5 l).length ≤ 20 * (runsM l).length := h2
  omega
end Go.Proofs.Ytpdjcfhmdeeikaa
namespace Go.Proofs.Ytpdjcfhmdeeikaa
open Go.RowKit Go.DL

set_option maxHeartbeats 4000000 in
theorem gints_c (b : List UInt8) (n : Nat) (hb : b.length ≤ 10995116277760) (hn : n ≤ 65536) : Fun Try.prog 38 [rdB b, I64 ((n : Nat) : Int)] (· = VL (getIl b n)) := by
  refine Fun.of Try.func38 rfl (Nat.le_of_ble_eq_true rfl) fun C => ?_
  refine WC.seq fun Fh1_ h1_ => ?_
  refine WC.region ?_
  refine RG.op _ _ rfl rfl (o_assign (.v _) rfl) ?_
  refine RG.op _ _ rfl rfl (o_assign (.v _) rfl) ?_
  refine RG.nil (h1_ _ ?_)
  refine WC.seq fun Fh2_ h2_ => ?_
  refine WC.region ?_
  refine RG.op _ _ rfl rfl (o_move (.rd _ _) rfl) ?_
  refine RG.op _ _ rfl rfl (o_move (.v _) rfl) ?_
  refine RG.op _ _ rfl rfl ((by exact o_call (ds := [rdB b, I64 (n : Nat)]) Ty.cal53 (geti_c b n hb) ⟨.inl rfl, .inl rfl, trivial⟩ (by exact pua rfl))) ?_
  refine RG.op _ _ rfl rfl (o_move (.tup _) rfl) ?_
  refine RG.op _ _ rfl rfl (o_extract rfl rfl) ?_
  refine RG.op _ _ rfl rfl (o_extract rfl rfl) ?_
  refine RG.op _ _ rfl rfl (o_assign (.rd _ _) rfl) ?_
  refine RG.op _ _ rfl rfl (o_assign (.v _) rfl) ?_
  refine RG.nil (h2_ _ ?_)
  refine WC.seq fun Fh3_ h3_ => ?_
  refine WC.seq fun Fh4_ h4_ => ?_
  refine WC.region ?_
  refine RG.op _ _ rfl rfl (o_move (.v _) rfl) ?_
  refine RG.op _ _ rfl rfl (o_neI rfl rfl) ?_
  refine RG.nil (h4_ _ ?_)
  refine WC.cond _ rfl (fun c2 => ?_) (fun c2 => ?_)
  ·
    have p2 := c2
    try simp only [CN] at p2
    refine WC.seq fun Fh5_ h5_ => ?_
    refine WC.region ?_
    refine RG.op _ _ rfl rfl (o_move (.v _) rfl) ?_
    refine RG.op _ _ rfl rfl (o_assign (.v _) rfl) ?_
    refine RG.op _ _ rfl rfl (o_assign (.v _) rfl) ?_
    refine RG.nil (h5_ _ ?_)
    refine WC.ret ?_
    exact Ends.r2 rfl (.tmp _ (.v _) rfl) (.tmp _ (.v _) rfl) .nilr (.v _) (by unfold getIl; rw [if_neg (by omega)]; rfl)
  ·
    have p2 := c2
    try simp only [CN] at p2
    have h0 : (getI5 b n).2 = 0 := by omega
    have hgl := (put_get h0).1
    obtain ⟨q, hq⟩ : ∃ q, q = (nS (getI5 b n).1).2.2 := ⟨_, rfl⟩
    have hql : q.length = n := by rw [hq]; omega
    rw [← hq] at hgl
    refine WC.skip (h3_ _ ?_)
    refine WC.seq fun Fh6_ h6_ => ?_
    refine WC.region ?_
    refine RG.op _ _ rfl rfl (o_move (.v _) rfl) ?_
    refine RG.op _ _ rfl rfl (o_makeT n n n rfl rfl Try.underlying22 Ty.inf36 rfl rfl (by omega) (by omega) (by omega) (by omega) (by omega)) ?_
    refine RG.op _ _ rfl rfl (o_assign (.own _ _ _ _ _) rfl) ?_
    refine RG.nil (h6_ _ ?_)
    refine WC.seq fun Fh7_ h7_ => ?_
    refine WC.seq fun Fh8_ h8_ => ?_
    rw [← hq]
    refine WC.region ?_
    refine RG.op _ _ rfl rfl (o_move (.rd _ _) rfl) ?_
    refine RG.op _ _ rfl rfl (o_len_rd rfl Try.underlying58) ?_
    refine RG.op _ _ rfl rfl (o_move (.v _) rfl) ?_
    refine RG.nil (h8_ _ ?_)
    refine WC.block ?_
    refine WC.loopU [9, 10, 24, 25, 26, 27, 28, 29, 30, 31, 32, 33, 34] (fun (k : Nat) => [(24, I64 ((k : Nat) : Int))]) (fun (k : Nat) => [(0, tb 36 n (((q.take k).map vI ++ List.replicate (n - k) z0).flatMap vc))]) (fun (k : Nat) => k ≤ n) (fun (k : Nat) => n - k) 0 (by first | omega | exact ubyte _ | (simp only [LS, nS_len] <;> omega)) ?lpa9_ ?lpb10_
    case lpa9_ =>
      exact .mk' ⟨⟨rfl, .v _⟩, trivial⟩ (same_refl _ _) (congrArg (fun c => [c]) (tb_eq rfl (zs_vals rfl _))) (by repeat (first | exact trivial | refine And.intro (Nat.le_refl _) ?_ | refine And.intro trivial ?_ | refine And.intro (by show _ ≤ _; (first | omega | (simp only [LS, nS_len] <;> omega))) ?_)) (by repeat (first | exact trivial | refine And.intro (one_ok (.own _ _ _ _ _ (Nat.le_refl _))) ?_ | refine And.intro (okp (by repeat (first | exact pu_bytes _ | exact pu_nil | exact pu_vs rfl | exact pu_map (fun _ => .v _) _ | exact pu_vals _ | refine pu_app ?_ ?_ | refine pu_cons (by exact pu_of rfl) ?_))) ?_))
    case lpb10_ =>
      rintro k hI
      refine WC.seq fun Fh11_ h11_ => ?_
      refine WC.region ?_
      refine RG.op _ _ rfl rfl (o_ltI rfl rfl) ?_
      refine RG.nil (h11_ _ ?_)
      refine WC.seq fun Fh12_ h12_ => ?_
      refine WC.cond _ rfl (fun c6 => ?_) (fun c6 => ?_)
      ·
        have p6 := c6
        try simp only [CN] at p6
        have hkn : k < n := by omega
        refine WC.skip (h12_ _ ?_)
        refine WC.seq fun Fh13_ h13_ => ?_
        refine WC.block ?_
        refine WC.seq fun Fh14_ h14_ => ?_
        refine WC.region ?_
        refine RG.op _ _ rfl rfl (o_move (.v _) rfl) ?_
        refine RG.op _ _ rfl rfl (o_ixn_M k rfl rfl Try.underlying58 (sz_of Ty.inf2) (by first | omega | exact ubyte _ | (simp only [LS, nS_len] <;> omega)) (by first | omega | exact ubyte _ | (simp only [LS, nS_len] <;> omega))) ?_
        refine RG.op _ _ rfl rfl (o_load_adr rfl Try.underlying2 rfl rfl) ?_
        refine RG.op _ _ rfl rfl (o_assign (.v _) rfl) ?_
        refine RG.op _ _ rfl rfl (o_assign (.v _) rfl) ?_
        refine RG.nil (h14_ _ ?_)
        refine WC.region ?_
        refine RG.op _ _ rfl rfl (o_move (.own _ _ _ _ _) rfl) ?_
        refine RG.op _ _ rfl rfl (o_move (.v _) rfl) ?_
        refine RG.op _ _ rfl rfl (o_move (.v _) rfl) ?_
        refine RG.op _ _ rfl rfl (o_build (cs := [(B8 2), (.v _), S []]) Try.underlying36 Ty.inf36 (Ty.pl36 Try.underlying36) rfl) ?_
        refine RG.op _ _ rfl rfl (o_ixn_own k rfl rfl Try.underlying22 (sz_of Ty.inf36) (by omega) (by omega)) ?_
        refine RG.op _ _ rfl rfl (o_store (d := .agg [_, _, _]) rfl rfl rfl rfl (sz_of Ty.inf36) (by show 0 + k * 3 + 3 ≤ (List.flatMap vc _).length; rw [flen, List.length_append, List.length_map, List.length_take, List.length_replicate]; omega) rfl) ?_
        refine RG.nil (h13_ _ ?_)
        refine WC.region ?_
        refine RG.op _ _ rfl rfl (o_add rfl rfl (by first | omega | exact ubyte _ | (simp only [LS, nS_len] <;> omega)) (by first | omega | exact ubyte _ | (simp only [LS, nS_len] <;> omega))) ?_
        refine RG.op _ _ rfl rfl (o_move (.v _) rfl) ?_
        refine RG.nil (Exists.intro (k + 1) ⟨by first | omega | (simp only [LS, nS_len] <;> omega), by first | omega | (simp only [LS, nS_len] <;> omega), ?_⟩)
        exact .mk' ⟨⟨rfl, .v _⟩, trivial⟩ (by repeat (first | with_reducible exact same_refl _ _ | with_reducible refine same_updO (by with_unfolding_all exact rfl) ?_ | with_reducible refine same_updN ?_ | with_reducible refine same_updL (by with_unfolding_all exact rfl) ?_ | with_reducible refine same_forget (by with_unfolding_all exact rfl) ?_)) (congrArg (fun c => [c]) (tb_eq rfl (by rw [List.take_succ_eq_append_getElem (by omega), List.map_append]; exact fill_val hkn (by rw [List.length_map, List.length_take]; omega) (vI _)))) (by repeat (first | exact trivial | refine And.intro (Nat.le_refl _) ?_ | refine And.intro trivial ?_ | refine And.intro (by show _ ≤ _; (first | omega | (simp only [LS, nS_len] <;> omega))) ?_)) (by repeat (first | exact trivial | refine And.intro (one_ok (.own _ _ _ _ _ (Nat.le_refl _))) ?_ | refine And.intro (okp (by repeat (first | exact pu_bytes _ | exact pu_nil | exact pu_vs rfl | exact pu_map (fun _ => .v _) _ | exact pu_vals _ | refine pu_app ?_ ?_ | refine pu_cons (by exact pu_of rfl) ?_))) ?_))
      ·
        have p6 := c6
        try simp only [CN] at p6
        refine WC.exit (h7_ _ ?_)
        refine WC.seq fun Fh15_ h15_ => ?_
        refine WC.region ?_
        refine RG.op _ _ rfl rfl (o_move (.own _ _ _ _ _) rfl) ?_
        refine RG.op _ _ rfl rfl (o_assign (.own _ _ _ _ _) rfl) ?_
        refine RG.op _ _ rfl rfl (o_assign (.v _) rfl) ?_
        refine RG.nil (h15_ _ ?_)
        refine WC.ret ?_
        exact Ends.r2 rfl (.tmp _ (.own _ _ _ _ _) rfl) (.tmp _ (.v _) rfl) (.tb rfl (by repeat (first | exact pu_bytes _ | exact pu_nil | exact pu_vs rfl | exact pu_map (fun _ => .v _) _ | exact pu_vals _ | refine pu_app ?_ ?_ | refine pu_cons (by exact pu_of rfl) ?_))) (.v _) (by unfold getIl; rw [if_pos h0, ← hq]; have e : k = n := (by omega); subst e; exact congrArg (fun c => D.tup [c, I64 0]) (rd_eq (by rw [List.length_map]; omega) (by rw [Nat.sub_self, List.take_of_length_le (by omega)]; simp)))
/-! ### Words -/
abbrev Txt : Type := List UInt8
def addW (w : List Txt) (t : Txt) : List Txt := if t ∈ w then w else w ++ [t]
def wordsF (l : List Txt) : List Txt := l.foldl addW []
def whM : List Txt → Txt → Nat
  | [], _ => 0
  | x :: r, t => if x = t then 0 else whM r t + 1
theorem wordsF_snoc (l : List Txt) (t : Txt) : wordsF (l ++ [t]) = addW (wordsF l) t := by unfold wordsF; rw [List.foldl_append]; rfl
theorem wordsF_take {l : List Txt} {k : Nat} (h : k < l.length) : wordsF (l.take (k + 1)) = addW (wordsF (l.take k)) l[k] := by rw [List.take_succ_eq_append_getElem h, wordsF_snoc]
theorem addW_pre (w : List Txt) (t : Txt) : w <+: addW w t := by
  unfold addW
  split
  · exact List.prefix_refl _
  · exact List.prefix_append _ _
theorem fold_pre : ∀ (l w : List Txt), w <+: l.foldl addW w
  | [], w => List.prefix_refl _
  | t :: l, w => (addW_pre w t).trans (fold_pre l (addW w t))
theorem wordsF_pre (l : List Txt) (k : Nat) : wordsF (l.take k) <+: wordsF l := by
  have h := fold_pre (l.drop k) (wordsF (l.take k))
  unfold wordsF at *
  rwa [← List.foldl_append, List.take_append_drop] at h
theorem mem_addW (w : List Txt) (t : Txt) : t ∈ addW w t := by
  unfold addW
  split
  · assumption
  · simp
theorem mem_words {l : List Txt} {k : Nat} (h : k < l.length) : l[k] ∈ wordsF (l.take (k + 1)) := by rw [wordsF_take h]; exact mem_addW _ _
theorem wh_lt {t : Txt} : ∀ {w : List Txt}, t ∈ w → whM w t < w.length ∧ w[whM w t]? = some t
  | x :: w, h => by
    rw [whM]
    split
    · rename_i e; exact ⟨by simp, by simp [e]⟩
    · rename_i e
      have h' : t ∈ w := (List.mem_cons.1 h).resolve_left (fun e2 => e e2.symm)
      have ih := wh_lt h'
      exact ⟨by simp; omega, by rw [List.getElem?_cons_succ]; exact ih.2⟩
theorem wh_no {t : Txt} : ∀ {w : List Txt}, ¬ t ∈ w → whM w t = w.length
  | [], _ => rfl
  | x :: w, h => by
    rw [whM, if_neg (fun e => h (by simp [e])), wh_no (fun e => h (by simp [e]))]; rfl
theorem wh_le (w : List Txt) (t : Txt) : whM w t ≤ w.length := by
  rcases Decidable.em (t ∈ w) with h | h
  · exact Nat.le_of_lt (wh_lt h).1
  · exact Nat.le_of_eq (wh_no h)
theorem wh_app {t : Txt} : ∀ {w : List Txt} (r : List Txt), t ∈ w → whM (w ++ r) t = whM w t
  | x :: w, r, h => by
    rw [List.cons_append, whM, whM]
    split
    · rfl
    · rename_i e
      rw [wh_app r ((List.mem_cons.1 h).resolve_left (fun e2 => e e2.symm))]
theorem wh_pre {w w' : List Txt} {t : Txt} (h : w <+: w') (ht : t ∈ w) : whM w' t = whM w t := by
  obtain ⟨r, rfl⟩ := h
  exact wh_app r ht
theorem wh_words {l : List Txt} {k : Nat} (h : k < l.length) : whM (wordsF l) l[k] = whM (wordsF (l.take (k + 1))) l[k] := wh_pre (wordsF_pre l (k + 1)) (mem_words h)
def wB (t : Txt) : List UInt8 := encB t.length ++ t
def wordsB (w : List Txt) : List UInt8 := w.flatMap wB
def szT (l : List Txt) : Nat := (l.map fun t => t.length + 10).sum
theorem szT_app (a b : List Txt) : szT (a ++ b) = szT a + szT b := by unfold szT; rw [List.map_append, List.sum_append]
theorem szT_len (l : List Txt) : l.length ≤ szT l := by
  induction l with
  | nil => exact Nat.zero_le _
  | cons t l ih => simp only [szT, List.map_cons, List.sum_cons, List.length_cons] at *; omega
theorem szT_mem {l : List Txt} {t : Txt} (h : t ∈ l) : t.length + 10 ≤ szT l := by
  induction l with
  | nil => cases h
  | cons x l ih =>
    simp only [szT, List.map_cons, List.sum_cons] at *
    rcases List.mem_cons.1 h with rfl | h
    · omega
    · have := ih h; omega
theorem szT_fold : ∀ (l w : List Txt), szT (l.foldl addW w) ≤ szT w + szT l
  | [], w => Nat.le_refl _
  | t :: l, w => by
    have h := szT_fold l (addW w t)
    have h2 : szT (addW w t) ≤ szT w + (t.length + 10) := by
      unfold addW
      split
      · omega
      · rw [szT_app]; simp [szT]
    have e : szT (t :: l) = t.length + 10 + szT l := by simp [szT]
    rw [List.foldl_cons, e]; omega
theorem szT_words (l : List Txt) : szT (wordsF l) ≤ szT l := by
  have h := szT_fold l []
  have e : szT [] = 0 := rfl
  unfold wordsF; omega
theorem szT_take (l : List Txt) (k : Nat) : szT (l.take k) ≤ szT l := by
  conv => rhs; rw [← List.take_append_drop k l]
  rw [szT_app]; omega
theorem wordsB_len {w : List Txt} (h : szT w ≤ 18446744073709551615) : (wordsB w).length ≤ szT w := by
  induction w with
  | nil => exact Nat.zero_le _
  | cons t w ih =>
    have e : szT (t :: w) = t.length + 10 + szT w := by simp [szT]
    have h1 := encB_len10 (u := t.length) (by omega)
    have h2 := ih (by omega)
    have e2 : (wordsB (t :: w)).length = (encB t.length).length + t.length + (wordsB w).length := by unfold wordsB; rw [List.flatMap_cons, List.length_append, wB, List.length_append]
    omega
theorem wordsB_snoc (w : List Txt) (t : Txt) : wordsB (w ++ [t]) = wordsB w ++ wB t := by unfold wordsB; rw [List.flatMap_append]; simp
def whB (W : List Txt) (l : List Txt) : List UInt8 := l.flatMap fun t => encB (whM W t)
theorem whB_len {W l : List Txt} (h : W.length ≤ 18446744073709551615) : (whB W l).length ≤ 10 * l.length := by
  induction l with
  | nil => exact Nat.zero_le _
  | cons t l ih =>
    have h1 := encB_len10 (u := whM W t) (by have := wh_le W t; omega)
    have e2 : (whB W (t :: l)).length = (encB (whM W t)).length + (whB W l).length := by unfold whB; rw [List.flatMap_cons, List.length_append]
    rw [e2, List.length_cons]; omega
theorem whB_take {W l : List Txt} {k : Nat} (h : k < l.length) : whB W (l.take (k + 1)) = whB W (l.take k) ++ encB (whM W l[k]) := by
  rw [List.take_succ_eq_append_getElem h]; unfold whB; rw [List.flatMap_append]; simp
def txM (l : List Txt) : List UInt8 := encB (wordsF l).length ++ wordsB (wordsF l) ++ whB (wordsF l) l
/-! ### The program's table of places -/
def plF : Nat → List Txt → List D
  | _, [] => []
  | i, t :: w => .tup [.v (.string (strB t)), I64 (i : Nat)] :: plF (i + 1) w
theorem plF_app (b : List Txt) : ∀ (i : Nat) (a : List Txt), plF i (a ++ b) = plF i a ++ plF (i + a.length) b
  | i, [] => rfl
  | i, t :: a => by
    rw [List.cons_append, plF, plF, plF_app b (i + 1) a, List.length_cons, show i + 1 + a.length = i + (a.length + 1) by omega]; rfl
theorem plF_snoc (w : List Txt) (t : Txt) : plF 0 (w ++ [t]) = plF 0 w ++ [.tup [.v (.string (strB t)), I64 (w.length : Nat)]] := by
  rw [plF_app, Nat.zero_add]; rfl
theorem plF_len (w : List Txt) : ∀ i, (plF i w).length = w.length := by
  induction w with
  | nil => intro i; rfl
  | cons t w ih => intro i; rw [plF, List.length_cons, ih, List.length_cons]
theorem pu_plF : ∀ (i : Nat) (w : List Txt), ∀ c ∈ plF i w, Pure' c
  | i, [], c, h => by cases h
  | i, t :: w, c, h => by
    rcases List.mem_cons.1 h with rfl | h
    · exact .tup _ (by simp; exact ⟨.v _, .v _⟩)
    · exact pu_plF (i + 1) w c h
theorem plF_keys : ∀ (i : Nat) (w : List Txt), keysD (plF i w) = w.map fun t => Value.string (strB t)
  | _, [] => rfl
  | i, t :: w => by rw [plF, keysD, plF_keys (i + 1) w]; rfl
theorem plF_get {t : Txt} : ∀ {i j : Nat} {w : List Txt}, w[j]? = some t → (plF i w)[j]? = some (.tup [.v (.string (strB t)), I64 ((i + j : Nat))])
  | i, 0, x :: w, h => by cases h; rfl
  | i, j + 1, x :: w, h => by
    rw [plF, List.getElem?_cons_succ, plF_get (i := i + 1) (j := j) (by simpa using h), show i + 1 + j = i + (j + 1) by omega]
theorem find_hit {t : Txt} : ∀ {w : List Txt} (i : Nat), t ∈ w → kFind .string (.string (strB t)) (w.map fun t => Value.string (strB t)) i = some (some (i + whM w t))
  | x :: w, i, h => by
    rw [List.map_cons, kFind, whM]
    have e : Instr.sameNow .string (.string (strB t)) (.string (strB x)) = some (t == x) := by
      show some (strB t == strB x) = _
      rw [str_beq]
    rw [e]
    by_cases hx : x = t
    · subst hx
      rw [beq_self_eq_true, if_pos rfl]; rfl
    · rw [beq_false_of_ne (fun e2 => hx e2.symm), if_neg hx]
      show kFind _ _ _ (i + 1) = _
      rw [find_hit (i + 1) ((List.mem_cons.1 h).resolve_left (fun e2 => hx e2.symm)), show i + 1 + whM w t = i + (whM w t + 1) by omega]
theorem find_miss {t : Txt} : ∀ {w : List Txt} (i : Nat), ¬ t ∈ w → kFind .string (.string (strB t)) (w.map fun t => Value.string (strB t)) i = some none
  | [], i, h => rfl
  | x :: w, i, h => by
    rw [List.map_cons, kFind]
    have e : Instr.sameNow .string (.string (strB t)) (.string (strB x)) = some (t == x) := by
      show some (strB t == strB x) = _
      rw [str_beq]
    rw [e, beq_false_of_ne (fun e2 => h (by simp [e2]))]
    exact find_miss (i + 1) (fun e2 => h (by simp [e2]))
section
variable {C : Ctx} {env : Nat → D} {H : Heap} {dst : Option Nat} {ty : TypeId} {pos : String} {after : Array Edge} {gu : Option (Nat × Bool)} {X Y Z : Operand}
theorem o_place {id : Nat} {w : List Txt} {t : Txt} {b : Blk} (hx : ev env X = .omp id 0) (hy : ev env Y = S t) (hb : H[id]? = some (some b)) (hv : b.ver = 0) (hc : b.cs = plF 0 w) : OpD Try.prog C ⟨dst, .lookup 78 X Y true, ty, pos, after, gu⟩ env H (.tup [I64 ((if t ∈ w then whM w t else 0 : Nat)), Bo (decide (t ∈ w))]) H := by
  by_cases h : t ∈ w
  · rw [if_pos h, decide_eq_true h]
    have hg := plF_get (i := 0) (wh_lt h).2
    rw [Nat.zero_add] at hg
    exact o_lookupO_hit (whM w t) hx hb hv hy Try.underlying78 Try.underlying9 rfl (by rw [hc, plF_keys]; have := find_hit 0 h; rwa [Nat.zero_add] at this) (by rw [hc]; exact hg)
  · rw [if_neg h, decide_eq_false h]
    exact o_lookupO_miss hx hb hv hy Try.underlying78 Try.underlying9 rfl (z_of Ty.inf3) (by rw [hc, plF_keys]; exact find_miss 0 h)
end
end Go.Proofs.Ytpdjcfhmdeeikaa
namespace Go.DL
open Go.RowKit
section
variable {P : Program} {C : Ctx} {env : Nat → D} {H : Heap} {dst : Option Nat} {ty t t' : TypeId} {pos : String} {after : Array Edge} {gu : Option (Nat × Bool)} {X Y : Operand}
theorem o_callB2 {f : FuncId} {ats : Array TypeId} {x0 x1 d0 d1 d : D} (hc : Callee P f) (hf : Fun P f [d0, d1] (· = d)) (h0 : ev env X = x0) (h1 : ev env Y = x1) (z0 : Frz H x0 d0) (z1 : Frz H x1 d1) (hs : Scal d) :
    OpD P C ⟨dst, .call { callee := .value (.func f), args := #[X, Y], argTypes := ats }, ty, pos, after, gu⟩ env H d H :=
  show OpD P C ⟨dst, .call { callee := .value (.func f), args := [X, Y].toArray, argTypes := ats }, ty, pos, after, gu⟩ env H d H from o_callB hc hf ⟨h0 ▸ z0, h1 ▸ z1, trivial⟩ hs
end
end Go.DL
namespace Go.Proofs.Ytpdjcfhmdeeikaa
open Go.RowKit Go.DL

set_option maxHeartbeats 4000000 in
theorem rputM_c (u : Nat) (hu : u ≤ 18446744073709551615) : FunM Try.prog 44 [N64 u] [] (fun o H' => o = .ret (ow 0 (encB u).length 1) ∧ H' = [tb 5 (encB u).length (bytesD (encB u))]) := by
  refine FunM.of Try.func44 rfl (Nat.le_of_ble_eq_true rfl) fun C => ?_
  refine WC.seq fun Fh1_ h1_ => ?_
  refine WC.region ?_
  refine RG.op _ _ rfl rfl (o_assign (.v _) rfl) ?_
  refine RG.nil (h1_ _ ?_)
  refine WC.seq fun Fh2_ h2_ => ?_
  refine WC.region ?_
  refine RG.op _ _ rfl rfl (o_nil 5 1) ?_
  refine RG.nil (h2_ _ ?_)
  refine WC.block ?_
  refine WC.loopU [0, 2, 3, 4, 5, 6, 7, 8, 9, 10, 11, 12, 13, 14, 15, 16, 17, 18, 19, 20] (fun (p : List UInt8 × Nat) => [(0, N64 p.2), (3, ow 0 p.1.length 1)]) (fun (p : List UInt8 × Nat) => [(0, tb 5 p.1.length (bytesD p.1))]) (fun (p : List UInt8 × Nat) => p.1 ++ encB p.2 = encB u ∧ p.2 ≤ u) (fun (p : List UInt8 × Nat) => p.2) ([], u) ⟨rfl, Nat.le_refl _⟩ ?lpa3_ ?lpb4_
  case lpa3_ =>
    exact .mk' ⟨⟨rfl, .v _⟩, ⟨rfl, (by first | exact .own _ _ _ _ _ (Nat.le_refl _) | exact .ptr _ _ _ (Nat.le_refl _) | exact .omp _ _ (Nat.le_refl _))⟩, trivial⟩ (same_refl _ _) (rfl) (by repeat (first | exact trivial | refine And.intro (Nat.le_refl _) ?_ | refine And.intro trivial ?_ | refine And.intro (by show _ ≤ _; (first | omega | (simp only [LS] <;> omega))) ?_)) (by repeat (first | exact trivial | refine And.intro (one_ok (.own _ _ _ _ _ (Nat.le_refl _))) ?_ | refine And.intro (okp (by repeat (first | exact pu_bytes _ | exact pu_nil | exact pu_vs rfl | exact pu_map (fun _ => .v _) _ | exact pu_vals _ | refine pu_app ?_ ?_ | refine pu_cons (by exact pu_of rfl) ?_))) ?_))
  case lpb4_ =>
    rintro p hI
    obtain ⟨he, hp⟩ := id hI
    have hl := enc_lt2 hu he
    refine WC.block ?_
    refine WC.seq fun Fh5_ h5_ => ?_
    refine WC.region ?_
    refine RG.op _ _ rfl rfl (o_move (.v _) rfl) ?_
    refine RG.op _ _ rfl rfl (o_remU (b := 128) rfl rfl (by first | omega | exact ubyte _ | (simp only [LS] <;> omega))) ?_
    refine RG.op _ _ rfl rfl (o_UtoB rfl Try.underlying69 Try.underlying5) ?_
    refine RG.op _ _ rfl rfl (o_assign (.v _) rfl) ?_
    refine RG.nil (h5_ _ ?_)
    refine WC.seq fun Fh6_ h6_ => ?_
    refine WC.region ?_
    refine RG.op _ _ rfl rfl (o_move (.v _) rfl) ?_
    refine RG.op _ _ rfl rfl (o_quoU (b := 128) rfl rfl (by first | omega | exact ubyte _ | (simp only [LS] <;> omega)) (by first | omega | exact ubyte _ | (simp only [LS] <;> omega))) ?_
    refine RG.op _ _ rfl rfl (o_assign (.v _) rfl) ?_
    refine RG.nil (h6_ _ ?_)
    refine WC.seq fun Fh7_ h7_ => ?_
    refine WC.seq fun Fh8_ h8_ => ?_
    refine WC.region ?_
    refine RG.op _ _ rfl rfl (o_move (.v _) rfl) ?_
    refine RG.op _ _ rfl rfl (o_eqI rfl rfl) ?_
    refine RG.nil (h8_ _ ?_)
    refine WC.cond _ rfl (fun c4 => ?_) (fun c4 => ?_)
    ·
      have p4 := c4
      try simp only [CN] at p4
      refine WC.seq fun Fh9_ h9_ => ?_
      refine WC.region ?_
      refine RG.op _ _ rfl rfl (o_move (.own _ _ _ _ _) rfl) ?_
      refine RG.op _ _ rfl rfl (o_move (.v _) rfl) ?_
      refine RG.op _ _ rfl rfl (o_litP (cs := [(.v _)]) Try.underlying24 Ty.inf5 rfl rfl rfl rfl (by repeat (first | exact pu_bytes _ | exact pu_nil | exact pu_vs rfl | exact pu_map (fun _ => .v _) _ | exact pu_vals _ | refine pu_app ?_ ?_ | refine pu_cons (by exact pu_of rfl) ?_))) ?_
      refine RG.op _ _ rfl rfl (o_appT (Elem.of Try.underlying24 Ty.inf5 rfl (by decide)) rfl rfl rfl (by first | omega | exact ubyte _ | (simp only [LS] <;> omega)) (by first | omega | exact ubyte _ | (simp only [LS] <;> omega)) (by repeat (first | exact bytesD_one _ | exact one_nil | exact one_map (fun _ => rfl) _ | exact one_vals _ | refine one_app ?_ ?_ | refine one_cons rfl ?_)) (by first | omega | exact ubyte _ | (simp only [LS] <;> omega)) (by first | omega | exact ubyte _ | (simp only [LS] <;> omega))) ?_
      refine RG.op _ _ rfl rfl (o_assign (.own _ _ _ _ _) rfl) ?_
      refine RG.nil (h9_ _ ?_)
      refine WC.ret ?_
      first | refine endM.mk (H0 := []) 1 [_] rfl rfl (by repeat (first | exact trivial | refine And.intro (one_ok (.own _ _ _ _ _ (Nat.le_refl _))) ?_ | refine And.intro (okp (by repeat (first | exact pu_bytes _ | exact pu_nil | exact pu_vs rfl | exact pu_map (fun _ => .v _) _ | exact pu_vals _ | refine pu_app ?_ ?_ | refine pu_cons (by exact pu_of rfl) ?_))) ?_)) ?_ | (simp only [thenQ, blkQ, noGo]; refine endM.mk (H0 := []) 1 [_] rfl rfl (by repeat (first | exact trivial | refine And.intro (one_ok (.own _ _ _ _ _ (Nat.le_refl _))) ?_ | refine And.intro (okp (by repeat (first | exact pu_bytes _ | exact pu_nil | exact pu_vs rfl | exact pu_map (fun _ => .v _) _ | exact pu_vals _ | refine pu_app ?_ ?_ | refine pu_cons (by exact pu_of rfl) ?_))) ?_)) ?_) | refine endM.mk 1 [_] rfl rfl (by repeat (first | exact trivial | refine And.intro (one_ok (.own _ _ _ _ _ (Nat.le_refl _))) ?_ | refine And.intro (okp (by repeat (first | exact pu_bytes _ | exact pu_nil | exact pu_vs rfl | exact pu_map (fun _ => .v _) _ | exact pu_vals _ | refine pu_app ?_ ?_ | refine pu_cons (by exact pu_of rfl) ?_))) ?_)) ?_
      exact EndsM.r1 rfl (.tmp _ (.own _ _ _ _ _) rfl) (by first | exact .own _ _ _ _ _ (Nat.le_refl _) | exact .v _ | exact Pure'.ok (by exact pu_of rfl) _ | exact .tup _ (by repeat (first | exact ok_nil | refine ok_cons (by first | exact .own _ _ _ _ _ (Nat.le_refl _) | exact .ptr _ _ _ (Nat.le_refl _) | exact .v _ | exact Pure'.ok (by exact pu_of rfl) _) ?_))) (⟨congrArg DOut.ret (ow_eq (by rw [← he, encB_small (u := p.2) (by omega)]; simp)), congrArg (fun c => [c]) (tb_eq (by rw [← he, encB_small (u := p.2) (by omega)]; simp) (by rw [← he, encB_small (u := p.2) (by omega), Nat.mod_eq_of_lt (by omega)]; exact (bytesD_app _ [_]).symm))⟩)
    ·
      have p4 := c4
      try simp only [CN] at p4
      refine WC.skip (h7_ _ ?_)
      refine WC.region ?_
      refine RG.op _ _ rfl rfl (o_move (.own _ _ _ _ _) rfl) ?_
      refine RG.op _ _ rfl rfl (o_move (.v _) rfl) ?_
      refine RG.op _ _ rfl rfl (o_addB (b := 128) rfl rfl) ?_
      refine RG.op _ _ rfl rfl (o_litP (cs := [(.v _)]) Try.underlying24 Ty.inf5 rfl rfl rfl rfl (by repeat (first | exact pu_bytes _ | exact pu_nil | exact pu_vs rfl | exact pu_map (fun _ => .v _) _ | exact pu_vals _ | refine pu_app ?_ ?_ | refine pu_cons (by exact pu_of rfl) ?_))) ?_
      refine RG.op _ _ rfl rfl (o_appT (Elem.of Try.underlying24 Ty.inf5 rfl (by decide)) rfl rfl rfl (by first | omega | exact ubyte _ | (simp only [LS] <;> omega)) (by first | omega | exact ubyte _ | (simp only [LS] <;> omega)) (by repeat (first | exact bytesD_one _ | exact one_nil | exact one_map (fun _ => rfl) _ | exact one_vals _ | refine one_app ?_ ?_ | refine one_cons rfl ?_)) (by first | omega | exact ubyte _ | (simp only [LS] <;> omega)) (by first | omega | exact ubyte _ | (simp only [LS] <;> omega))) ?_
      refine RG.op _ _ rfl rfl (o_assign (.own _ _ _ _ _) rfl) ?_
      refine RG.nil (Exists.intro ((p.1 ++ [UInt8.ofNat (p.2 % 128 + 128)], p.2 / 128)) ⟨⟨by rw [← he, encB_big (u := p.2) (by omega), List.append_assoc]; rfl, by show p.2 / 128 ≤ u; omega⟩, by show p.2 / 128 < p.2; omega, ?_⟩)
      exact .mk' ⟨⟨rfl, .v _⟩, ⟨ow_eq (by simp), (by first | exact .own _ _ _ _ _ (Nat.le_refl _) | exact .ptr _ _ _ (Nat.le_refl _) | exact .omp _ _ (Nat.le_refl _))⟩, trivial⟩ (by repeat (first | with_reducible exact same_refl _ _ | with_reducible refine same_updO (by with_unfolding_all exact rfl) ?_ | with_reducible refine same_updN ?_ | with_reducible refine same_updL (by with_unfolding_all exact rfl) ?_ | with_reducible refine same_forget (by with_unfolding_all exact rfl) ?_)) (congrArg (fun c => [c]) (tb_eq (by simp) (by rw [add_128]; exact (bytesD_app _ [_]).symm))) (by repeat (first | exact trivial | refine And.intro (Nat.le_refl _) ?_ | refine And.intro trivial ?_ | refine And.intro (by show _ ≤ _; (first | omega | (simp only [LS] <;> omega))) ?_)) (by repeat (first | exact trivial | refine And.intro (one_ok (.own _ _ _ _ _ (Nat.le_refl _))) ?_ | refine And.intro (okp (by repeat (first | exact pu_bytes _ | exact pu_nil | exact pu_vs rfl | exact pu_map (fun _ => .v _) _ | exact pu_vals _ | refine pu_app ?_ ?_ | refine pu_cons (by exact pu_of rfl) ?_))) ?_))
abbrev rdS (l : List Txt) : D := .rd l.length (l.map S)
set_option maxHeartbeats 4000000 in
theorem which_c (w : List Txt) (t : Txt) (hw : w.length ≤ 1099511627776) : Fun Try.prog 47 [rdS w, S t] (· = I64 ((whM w t : Nat))) := by
  refine Fun.of Try.func47 rfl (Nat.le_of_ble_eq_true rfl) fun C => ?_
  refine WC.seq fun Fh1_ h1_ => ?_
  refine WC.region ?_
  refine RG.op _ _ rfl rfl (o_assign (.v _) rfl) ?_
  refine RG.nil (h1_ _ ?_)
  refine WC.seq fun Fh2_ h2_ => ?_
  refine WC.region ?_
  refine RG.op _ _ rfl rfl (o_assign (.v _) rfl) ?_
  refine RG.nil (h2_ _ ?_)
  refine WC.seq fun Fh3_ h3_ => ?_
  refine WC.block ?_
  refine WC.loopU [5, 6, 7, 8, 9, 10, 11, 12, 13, 14, 15, 16, 17, 18, 19] (fun (k : Nat) => [(5, I64 ((k : Nat) : Int))]) (fun (k : Nat) => []) (fun (k : Nat) => k ≤ w.length ∧ whM w t = whM (w.drop k) t + k) (fun (k : Nat) => w.length - k) 0 ⟨Nat.zero_le _, rfl⟩ ?lpa4_ ?lpb5_
  case lpa4_ =>
    exact .mk' ⟨⟨rfl, .v _⟩, trivial⟩ (same_refl _ _) (rfl) (by repeat (first | exact trivial | refine And.intro (Nat.le_refl _) ?_ | refine And.intro trivial ?_ | refine And.intro (by show _ ≤ _; (first | omega | (simp only [LS] <;> omega))) ?_)) (by repeat (first | exact trivial | refine And.intro (one_ok (.own _ _ _ _ _ (Nat.le_refl _))) ?_ | refine And.intro (okp (by repeat (first | exact pu_bytes _ | exact pu_nil | exact pu_vs rfl | exact pu_map (fun _ => .v _) _ | exact pu_vals _ | refine pu_app ?_ ?_ | refine pu_cons (by exact pu_of rfl) ?_))) ?_))
  case lpb5_ =>
    rintro k hI
    have hk1 := hI.1
    have hk2 := hI.2
    refine WC.seq fun Fh6_ h6_ => ?_
    refine WC.seq fun Fh7_ h7_ => ?_
    refine WC.region ?_
    refine RG.op _ _ rfl rfl (o_move (.v _) rfl) ?_
    refine RG.op _ _ rfl rfl (o_move (.rd _ _) rfl) ?_
    refine RG.op _ _ rfl rfl (o_len_rd rfl Try.underlying72) ?_
    refine RG.op _ _ rfl rfl (o_ltI rfl rfl) ?_
    refine RG.op _ _ rfl rfl (o_move (.v _) rfl) ?_
    refine RG.opg1 _ _ _ _ _ rfl rfl rfl rfl rfl (fun hb => o_move (.rd _ _) rfl) ?_
    refine RG.opg1 _ _ _ _ _ rfl rfl rfl rfl rfl (fun hb => o_move (.v _) rfl) ?_
    refine RG.opg1 _ _ _ _ _ rfl rfl rfl rfl rfl (fun hb => o_ixn_MZ ([] : List UInt8) k (gdT hb) (gdT hb) Try.underlying72 (sz_of Ty.inf9) (by first | omega | exact ubyte _ | (have hb' := hb; simp only [CN] at hb'; omega) | (simp only [LS] <;> omega) | (have hb' := hb; simp only [CN] at hb'; simp only [LS]; omega)) (by first | omega | exact ubyte _ | (have hb' := hb; simp only [CN] at hb'; omega) | (simp only [LS] <;> omega) | (have hb' := hb; simp only [CN] at hb'; simp only [LS]; omega))) ?_
    refine RG.opg1 _ _ _ _ _ rfl rfl rfl rfl rfl (fun hb => o_load_adr (gdT hb) Try.underlying9 rfl rfl) ?_
    refine RG.opg1 _ _ _ _ _ rfl rfl rfl rfl rfl (fun hb => o_move (.v _) rfl) ?_
    refine RG.opg1 _ _ _ _ _ rfl rfl rfl rfl rfl (fun hb => o_neS' (gdT hb) (gdT hb)) ?_
    refine RG.op _ _ rfl rfl (o_and _ _ rfl rfl rfl) ?_
    refine RG.nil (h7_ _ ?_)
    refine WC.cond _ rfl (fun c2 => ?_) (fun c2 => ?_)
    ·
      have p2 := c2
      try simp only [CN] at p2
      have hkl : k < w.length := by omega
      have hne : ¬ w[k] = t := by have a := p2.2; rw [List.getD_eq_getElem?_getD, List.getElem?_eq_getElem hkl] at a; simpa using a
      refine WC.skip (h6_ _ ?_)
      refine WC.block ?_
      refine WC.region ?_
      refine RG.op _ _ rfl rfl (o_move (.v _) rfl) ?_
      refine RG.op _ _ rfl rfl (o_add rfl rfl (by first | omega | exact ubyte _ | (simp only [LS] <;> omega)) (by first | omega | exact ubyte _ | (simp only [LS] <;> omega))) ?_
      refine RG.op _ _ rfl rfl (o_assign (.v _) rfl) ?_
      refine RG.nil (Exists.intro (k + 1) ⟨⟨by omega, by rw [hk2, List.drop_eq_getElem_cons (by omega), whM, if_neg hne]; omega⟩, by first | omega | (simp only [LS] <;> omega), ?_⟩)
      exact .mk' ⟨⟨rfl, .v _⟩, trivial⟩ (by repeat (first | with_reducible exact same_refl _ _ | with_reducible refine same_updO (by with_unfolding_all exact rfl) ?_ | with_reducible refine same_updN ?_ | with_reducible refine same_updL (by with_unfolding_all exact rfl) ?_ | with_reducible refine same_forget (by with_unfolding_all exact rfl) ?_)) (rfl) (by repeat (first | exact trivial | refine And.intro (Nat.le_refl _) ?_ | refine And.intro trivial ?_ | refine And.intro (by show _ ≤ _; (first | omega | (simp only [LS] <;> omega))) ?_)) (by repeat (first | exact trivial | refine And.intro (one_ok (.own _ _ _ _ _ (Nat.le_refl _))) ?_ | refine And.intro (okp (by repeat (first | exact pu_bytes _ | exact pu_nil | exact pu_vs rfl | exact pu_map (fun _ => .v _) _ | exact pu_vals _ | refine pu_app ?_ ?_ | refine pu_cons (by exact pu_of rfl) ?_))) ?_))
    ·
      have p2 := c2
      try simp only [CN] at p2
      refine WC.exit (h3_ _ ?_)
      refine WC.seq fun Fh8_ h8_ => ?_
      refine WC.region ?_
      refine RG.op _ _ rfl rfl (o_move (.v _) rfl) ?_
      refine RG.op _ _ rfl rfl (o_assign (.v _) rfl) ?_
      refine RG.nil (h8_ _ ?_)
      refine WC.ret ?_
      exact Ends.r1 rfl (.tmp _ (.v _) rfl) (.v _) (congrArg I64 (by rw [hk2]; rcases Nat.lt_or_ge k w.length with h | h; (rw [List.drop_eq_getElem_cons h, whM, if_pos (by rcases p2 with a | a; omega; (rw [List.getD_eq_getElem?_getD, List.getElem?_eq_getElem h] at a; simpa using a))]; omega); (rw [List.drop_eq_nil_of_le h]; show _ = (((0 + k : Nat)) : Int); omega)))
def tsM (l : List Val) : List Txt := l.map fun v => v.t
theorem tsM_len (l : List Val) : (tsM l).length = l.length := List.length_map _
theorem tsM_take {l : List Val} {k : Nat} (h : k < l.length) : wordsF (tsM (l.take (k + 1))) = addW (wordsF (tsM (l.take k))) l[k].t := by
  rw [List.take_succ_eq_append_getElem h]; unfold tsM; rw [List.map_append]; exact wordsF_snoc _ _
theorem words_le (l : List Txt) : (wordsF l).length ≤ l.length := by
  have h : ∀ (l w : List Txt), (l.foldl addW w).length ≤ w.length + l.length := by
    intro l
    induction l with
    | nil => intro w; exact Nat.le_refl _
    | cons t l ih =>
      intro w
      have h1 := ih (addW w t)
      have h2 : (addW w t).length ≤ w.length + 1 := by unfold addW; split; omega; simp
      rw [List.foldl_cons, List.length_cons]; omega
  have := h l []
  simpa [wordsF] using this
set_option maxHeartbeats 4000000 in
theorem rwords_c (l : List Val) (hk : ∀ v ∈ l, v.k = 3) (hl : l.length ≤ 1099511627776) : Fun Try.prog 46 [rdV l] (· = rdS (wordsF (tsM l))) := by
  refine Fun.of Try.func46 rfl (Nat.le_of_ble_eq_true rfl) fun C => ?_
  refine WC.seq fun Fh1_ h1_ => ?_
  refine WC.region ?_
  refine RG.op _ _ rfl rfl (o_assign (.v _) rfl) ?_
  refine RG.nil (h1_ _ ?_)
  refine WC.seq fun Fh2_ h2_ => ?_
  refine WC.region ?_
  refine RG.op _ _ rfl rfl (o_nil 9 1) ?_
  refine RG.nil (h2_ _ ?_)
  refine WC.seq fun Fh3_ h3_ => ?_
  refine WC.seq fun Fh4_ h4_ => ?_
  refine WC.region ?_
  refine RG.op _ _ rfl rfl (o_assign (.v _) rfl) ?_
  refine RG.nil (h4_ _ ?_)
  refine WC.block ?_
  refine WC.loopU [3, 4, 5, 6, 7, 8, 9, 10, 11, 12, 13, 14, 15, 16, 17, 18, 19, 20, 21, 22, 23, 24, 25, 26, 27, 28, 29, 30, 31, 32, 33, 34, 35, 36] (fun (k : Nat) => [(4, I64 ((k : Nat) : Int)), (3, ow 0 (wordsF (tsM (l.take k))).length 1)]) (fun (k : Nat) => [(0, tb 9 (wordsF (tsM (l.take k))).length ((wordsF (tsM (l.take k))).map S))]) (fun (k : Nat) => k ≤ l.length) (fun (k : Nat) => l.length - k) 0 (by first | omega | exact ubyte _ | (simp only [LS] <;> omega)) ?lpa5_ ?lpb6_
  case lpa5_ =>
    exact .mk' ⟨⟨rfl, .v _⟩, ⟨rfl, (by first | exact .own _ _ _ _ _ (Nat.le_refl _) | exact .ptr _ _ _ (Nat.le_refl _) | exact .omp _ _ (Nat.le_refl _))⟩, trivial⟩ (same_refl _ _) (rfl) (by repeat (first | exact trivial | refine And.intro (Nat.le_refl _) ?_ | refine And.intro trivial ?_ | refine And.intro (by show _ ≤ _; (first | omega | (simp only [LS] <;> omega))) ?_)) (by repeat (first | exact trivial | refine And.intro (one_ok (.own _ _ _ _ _ (Nat.le_refl _))) ?_ | refine And.intro (okp (by repeat (first | exact pu_bytes _ | exact pu_nil | exact pu_vs rfl | exact pu_map (fun _ => .v _) _ | exact pu_vals _ | refine pu_app ?_ ?_ | refine pu_cons (by exact pu_of rfl) ?_))) ?_))
  case lpb6_ =>
    rintro k hI
    have hwl := words_le (tsM (l.take k))
    rw [tsM_len, List.length_take] at hwl
    refine WC.seq fun Fh7_ h7_ => ?_
    refine WC.seq fun Fh8_ h8_ => ?_
    refine WC.region ?_
    refine RG.op _ _ rfl rfl (o_move (.v _) rfl) ?_
    refine RG.op _ _ rfl rfl (o_move (.rd _ _) rfl) ?_
    refine RG.op _ _ rfl rfl (o_len_rd rfl Try.underlying22) ?_
    refine RG.op _ _ rfl rfl (o_ltI rfl rfl) ?_
    refine RG.nil (h8_ _ ?_)
    refine WC.cond _ rfl (fun c3 => ?_) (fun c3 => ?_)
    ·
      have p3 := c3
      try simp only [CN] at p3
      have hkl : k < l.length := by omega
      have hk3 : l[k].k = 3 := hk _ (List.getElem_mem hkl)
      have hgd : l.getD k ⟨0, 0, []⟩ = l[k] := by simp [List.getD, hkl]
      refine WC.skip (h7_ _ ?_)
      refine WC.seq fun Fh9_ h9_ => ?_
      refine WC.block ?_
      refine WC.seq fun Fh10_ h10_ => ?_
      refine WC.region ?_
      refine RG.op _ _ rfl rfl (o_move (.rd _ _) rfl) ?_
      refine RG.op _ _ rfl rfl (o_move (.v _) rfl) ?_
      refine RG.op _ _ rfl rfl (o_ixn_L k vc_len rfl rfl rfl Try.underlying22 (sz_of Ty.inf36) (by first | omega | exact ubyte _ | (simp only [LS] <;> omega)) (by first | omega | exact ubyte _ | (simp only [LS] <;> omega))) ?_
      refine RG.op _ _ rfl rfl (o_fld_adr rfl Try.underlying36 rfl (sz_of Ty.inf5) (by decide)) ?_
      refine RG.op _ _ rfl rfl (o_load_adr rfl Try.underlying5 rfl rfl) ?_
      refine RG.op _ _ rfl rfl (o_eqB (b := 3) rfl rfl) ?_
      refine RG.op _ _ rfl rfl (o_move (.v _) rfl) ?_
      refine RG.opg1 _ _ _ _ _ rfl rfl rfl rfl rfl (fun hb => o_move (.own _ _ _ _ _) rfl) ?_
      refine RG.opg1 _ _ _ _ _ rfl rfl rfl rfl rfl (fun hb => o_move (.rd _ _) rfl) ?_
      refine RG.opg1 _ _ _ _ _ rfl rfl rfl rfl rfl (fun hb => o_move (.v _) rfl) ?_
      refine RG.opg1 _ _ _ _ _ rfl rfl rfl rfl rfl (fun hb => o_ixn_LZ (⟨0, 0, []⟩ : Val) k vc_len rfl (gdT hb) (gdT hb) Try.underlying22 (sz_of Ty.inf36) (by first | omega | exact ubyte _ | (have hb' := hb; simp only [CN] at hb'; omega) | (simp only [LS] <;> omega) | (have hb' := hb; simp only [CN] at hb'; simp only [LS]; omega)) (by first | omega | exact ubyte _ | (have hb' := hb; simp only [CN] at hb'; omega) | (simp only [LS] <;> omega) | (have hb' := hb; simp only [CN] at hb'; simp only [LS]; omega))) ?_
      refine RG.opg1 _ _ _ _ _ rfl rfl rfl rfl rfl (fun hb => o_fld_adr (gdT hb) Try.underlying36 rfl (sz_of Ty.inf9) (by decide)) ?_
      refine RG.opg1 _ _ _ _ _ rfl rfl rfl rfl rfl (fun hb => o_load_adr (gdT hb) Try.underlying9 rfl rfl) ?_
      refine RG.opg1 _ _ _ _ _ rfl rfl rfl rfl rfl (fun hb => (by exact o_callB2 Ty.cal47 (which_c (wordsF (tsM (l.take k))) (l.getD k ⟨0, 0, []⟩).t (by omega)) (gdT hb) (gdT hb) (.tb rfl (by repeat (first | exact pu_bytes _ | exact pu_nil | exact pu_vs rfl | exact pu_map (fun _ => .v _) _ | exact pu_vals _ | refine pu_app ?_ ?_ | refine pu_cons (by exact pu_of rfl) ?_))) (.v _) (.v _))) ?_
      refine RG.opg1 _ _ _ _ _ rfl rfl rfl rfl rfl (fun hb => o_move (.own _ _ _ _ _) rfl) ?_
      refine RG.opg1 _ _ _ _ _ rfl rfl rfl rfl rfl (fun hb => o_len_own (gdT hb) Try.underlying72) ?_
      refine RG.opg1 _ _ _ _ _ rfl rfl rfl rfl rfl (fun hb => o_eqI (gdT hb) (gdT hb)) ?_
      refine RG.op _ _ rfl rfl (o_and _ _ rfl rfl rfl) ?_
      refine RG.nil (h10_ _ ?_)
      refine WC.cond _ rfl (fun c5 => ?_) (fun c5 => ?_)
      ·
        have p5 := c5
        try simp only [CN] at p5
        have hadd : addW (wordsF (tsM (l.take k))) l[k].t = wordsF (tsM (l.take k)) ++ [l[k].t] := by have a := p5.2; rw [hgd] at a; unfold addW; rw [if_neg (fun hm => by have := (wh_lt hm).1; omega)]
        refine WC.region ?_
        refine RG.op _ _ rfl rfl (o_move (.own _ _ _ _ _) rfl) ?_
        refine RG.op _ _ rfl rfl (o_move (.rd _ _) rfl) ?_
        refine RG.op _ _ rfl rfl (o_move (.v _) rfl) ?_
        refine RG.op _ _ rfl rfl (o_ixn_L k vc_len rfl rfl rfl Try.underlying22 (sz_of Ty.inf36) (by first | omega | exact ubyte _ | (simp only [LS] <;> omega)) (by first | omega | exact ubyte _ | (simp only [LS] <;> omega))) ?_
        refine RG.op _ _ rfl rfl (o_fld_adr rfl Try.underlying36 rfl (sz_of Ty.inf9) (by decide)) ?_
        refine RG.op _ _ rfl rfl (o_load_adr rfl Try.underlying9 rfl rfl) ?_
        refine RG.op _ _ rfl rfl (o_litP (cs := [(.v _)]) Try.underlying72 Ty.inf9 rfl rfl rfl rfl (by repeat (first | exact pu_bytes _ | exact pu_nil | exact pu_vs rfl | exact pu_map (fun _ => .v _) _ | exact pu_vals _ | refine pu_app ?_ ?_ | refine pu_cons (by exact pu_of rfl) ?_))) ?_
        refine RG.op _ _ rfl rfl (o_appT (Elem.of Try.underlying72 Ty.inf9 rfl (by decide)) rfl rfl rfl (by first | omega | exact ubyte _ | (simp only [LS] <;> omega)) (by first | omega | exact ubyte _ | (simp only [LS] <;> omega)) (by repeat (first | exact bytesD_one _ | exact one_nil | exact one_map (fun _ => rfl) _ | exact one_vals _ | refine one_app ?_ ?_ | refine one_cons rfl ?_)) (by first | omega | exact ubyte _ | (simp only [LS] <;> omega)) (by first | omega | exact ubyte _ | (simp only [LS] <;> omega))) ?_
        refine RG.op _ _ rfl rfl (o_assign (.own _ _ _ _ _) rfl) ?_
        refine RG.nil (h9_ _ ?_)
        refine WC.region ?_
        refine RG.op _ _ rfl rfl (o_move (.v _) rfl) ?_
        refine RG.op _ _ rfl rfl (o_add rfl rfl (by first | omega | exact ubyte _ | (simp only [LS] <;> omega)) (by first | omega | exact ubyte _ | (simp only [LS] <;> omega))) ?_
        refine RG.op _ _ rfl rfl (o_assign (.v _) rfl) ?_
        refine RG.nil (Exists.intro (k + 1) ⟨by first | omega | (simp only [LS] <;> omega), by first | omega | (simp only [LS] <;> omega), ?_⟩)
        exact .mk' ⟨⟨rfl, .v _⟩, ⟨ow_eq (by rw [tsM_take hkl, hadd]; simp), (by first | exact .own _ _ _ _ _ (Nat.le_refl _) | exact .ptr _ _ _ (Nat.le_refl _) | exact .omp _ _ (Nat.le_refl _))⟩, trivial⟩ (by repeat (first | with_reducible exact same_refl _ _ | with_reducible refine same_updO (by with_unfolding_all exact rfl) ?_ | with_reducible refine same_updN ?_ | with_reducible refine same_updL (by with_unfolding_all exact rfl) ?_ | with_reducible refine same_forget (by with_unfolding_all exact rfl) ?_)) (congrArg (fun c => [c]) (tb_eq (by rw [tsM_take hkl, hadd]; simp) (by rw [tsM_take hkl, hadd]; simp))) (by repeat (first | exact trivial | refine And.intro (Nat.le_refl _) ?_ | refine And.intro trivial ?_ | refine And.intro (by show _ ≤ _; (first | omega | (simp only [LS] <;> omega))) ?_)) (by repeat (first | exact trivial | refine And.intro (one_ok (.own _ _ _ _ _ (Nat.le_refl _))) ?_ | refine And.intro (okp (by repeat (first | exact pu_bytes _ | exact pu_nil | exact pu_vs rfl | exact pu_map (fun _ => .v _) _ | exact pu_vals _ | refine pu_app ?_ ?_ | refine pu_cons (by exact pu_of rfl) ?_))) ?_))
      ·
        have p5 := c5
        try simp only [CN] at p5
        have hadd : addW (wordsF (tsM (l.take k))) l[k].t = wordsF (tsM (l.take k)) := by rcases p5 with a | a; exact absurd hk3 a; (rw [hgd] at a; unfold addW; rw [if_pos (Decidable.byContradiction fun hm => a (by rw [wh_no hm]))])
        refine WC.skip (h9_ _ ?_)
        refine WC.region ?_
        refine RG.op _ _ rfl rfl (o_move (.v _) rfl) ?_
        refine RG.op _ _ rfl rfl (o_add rfl rfl (by first | omega | exact ubyte _ | (simp only [LS] <;> omega)) (by first | omega | exact ubyte _ | (simp only [LS] <;> omega))) ?_
        refine RG.op _ _ rfl rfl (o_assign (.v _) rfl) ?_
        refine RG.nil (Exists.intro (k + 1) ⟨by first | omega | (simp only [LS] <;> omega), by first | omega | (simp only [LS] <;> omega), ?_⟩)
        exact .mk' ⟨⟨rfl, .v _⟩, ⟨ow_eq (by rw [tsM_take hkl, hadd]), (by first | exact .own _ _ _ _ _ (Nat.le_refl _) | exact .ptr _ _ _ (Nat.le_refl _) | exact .omp _ _ (Nat.le_refl _))⟩, trivial⟩ (by repeat (first | with_reducible exact same_refl _ _ | with_reducible refine same_updO (by with_unfolding_all exact rfl) ?_ | with_reducible refine same_updN ?_ | with_reducible refine same_updL (by with_unfolding_all exact rfl) ?_ | with_reducible refine same_forget (by with_unfolding_all exact rfl) ?_)) (congrArg (fun c => [c]) (tb_eq (by rw [tsM_take hkl, hadd]) (by rw [tsM_take hkl, hadd]))) (by repeat (first | exact trivial | refine And.intro (Nat.le_refl _) ?_ | refine And.intro trivial ?_ | refine And.intro (by show _ ≤ _; (first | omega | (simp only [LS] <;> omega))) ?_)) (by repeat (first | exact trivial | refine And.intro (one_ok (.own _ _ _ _ _ (Nat.le_refl _))) ?_ | refine And.intro (okp (by repeat (first | exact pu_bytes _ | exact pu_nil | exact pu_vs rfl | exact pu_map (fun _ => .v _) _ | exact pu_vals _ | refine pu_app ?_ ?_ | refine pu_cons (by exact pu_of rfl) ?_))) ?_))
    ·
      have p3 := c3
      try simp only [CN] at p3
      refine WC.exit (h3_ _ ?_)
      refine WC.seq fun Fh11_ h11_ => ?_
      refine WC.region ?_
      refine RG.op _ _ rfl rfl (o_move (.own _ _ _ _ _) rfl) ?_
      refine RG.op _ _ rfl rfl (o_assign (.own _ _ _ _ _) rfl) ?_
      refine RG.nil (h11_ _ ?_)
      refine WC.ret ?_
      exact Ends.r1 rfl (.tmp _ (.own _ _ _ _ _) rfl) (.tb rfl (by repeat (first | exact pu_bytes _ | exact pu_nil | exact pu_vs rfl | exact pu_map (fun _ => .v _) _ | exact pu_vals _ | refine pu_app ?_ ?_ | refine pu_cons (by exact pu_of rfl) ?_))) (by have e : k = l.length := (by omega); subst e; rw [List.take_length])
end Go.Proofs.Ytpdjcfhmdeeikaa
namespace Go.Proofs.Ytpdjcfhmdeeikaa
open Go.RowKit Go.DL

theorem lenU {n : Nat} (h : n ≤ 18446744073709551615) : ((n : Int) % 18446744073709551616).toNat = n := by omega
theorem wordsB_take {w : List Txt} {k : Nat} (h : k < w.length) : wordsB (w.take (k + 1)) = wordsB (w.take k) ++ wB w[k] := by rw [List.take_succ_eq_append_getElem h, wordsB_snoc]
theorem getW (l : List Val) {k : Nat} (h : k < l.length) : (tsM l)[k]'(by rw [tsM_len]; exact h) = l[k].t := by simp [tsM]
def txB (W : List Txt) (j : Nat) (T : List Txt) (k : Nat) : List UInt8 := encB W.length ++ wordsB (W.take j) ++ whB W (T.take k)
theorem txB_w {W T : List Txt} {j : Nat} (h : j < W.length) : txB W (j + 1) T 0 = txB W j T 0 ++ (encB W[j].length ++ W[j]) := by
  unfold txB
  rw [wordsB_take h, wB]; simp [whB]
theorem txB_t {W T : List Txt} {j k : Nat} (h : k < T.length) : txB W j T (k + 1) = txB W j T k ++ encB (whM W T[k]) := by
  unfold txB
  rw [whB_take h, List.append_assoc, List.append_assoc, List.append_assoc]
theorem txB_len {W T : List Txt} {j k : Nat} (hW : szT W ≤ 1099511627776) : (txB W j T k).length ≤ 10 + szT W + 10 * T.length := by
  have h1 := encB_len10 (u := W.length) (by have := szT_len W; omega)
  have h2 := szT_take W j
  have h3 := wordsB_len (w := W.take j) (by omega)
  have h4 := whB_len (W := W) (l := T.take k) (by have := szT_len W; omega)
  rw [List.length_take] at h4
  unfold txB
  rw [List.length_append, List.length_append]; omega
theorem txB_ge (W : List Txt) (j : Nat) (T : List Txt) (k : Nat) : (encB W.length).length ≤ (txB W j T k).length ∧ (txB W j T 0).length ≤ (txB W j T k).length := by
  unfold txB
  simp only [List.length_append, List.take_zero]
  have : (whB W []).length = 0 := rfl
  omega
theorem txB_all (T : List Txt) : txB (wordsF T) (wordsF T).length T T.length = txM T := by unfold txB txM; rw [List.take_length, List.take_length]
set_option maxHeartbeats 4000000 in
theorem rtexts_c (l : List Val) (hk : ∀ v ∈ l, v.k = 3) (hl : szT (tsM l) ≤ 109951162777) : Fun Try.prog 28 [rdV l] (· = rdB (txM (tsM l))) := by
  have hll := szT_len (tsM l)
  have htl := tsM_len l
  have hwl := words_le (tsM l)
  have hws := szT_words (tsM l)
  have hwc := rwords_c l hk (by omega)
  obtain ⟨W, hW⟩ : ∃ W, W = wordsF (tsM l) := ⟨_, rfl⟩
  rw [← hW] at hwl hws hwc
  refine Fun.of Try.func28 rfl (Nat.le_of_ble_eq_true rfl) fun C => ?_
  refine WC.seq fun Fh1_ h1_ => ?_
  refine WC.region ?_
  refine RG.op _ _ rfl rfl (o_assign (.v _) rfl) ?_
  refine RG.nil (h1_ _ ?_)
  refine WC.seq fun Fh2_ h2_ => ?_
  refine WC.region ?_
  refine RG.op _ _ rfl rfl (o_move (.rd _ _) rfl) ?_
  refine RG.op _ _ rfl rfl (o_call Ty.cal46 hwc ⟨.inl rfl, trivial⟩ (by exact pua rfl)) ?_
  refine RG.op _ _ rfl rfl (o_assign (.rd _ _) rfl) ?_
  refine RG.nil (h2_ _ ?_)
  refine WC.seq fun Fh3_ h3_ => ?_
  refine WC.region ?_
  refine RG.op _ _ rfl rfl (o_move (.rd _ _) rfl) ?_
  refine RG.op _ _ rfl rfl (o_len_rd rfl Try.underlying72) ?_
  refine RG.op _ _ rfl rfl ((o_i64toU rfl Try.underlying3 Try.underlying69).cast (congrArg N64 (lenU (by omega)))) ?_
  refine RG.op _ _ rfl rfl (OpX.d (x_call Ty.cal44 (FunM.new1 (rputM_c _ (by first | omega | exact ubyte _ | (simp only [LS] <;> omega))) ⟨.v _, trivial⟩ (by repeat (first | exact pu_bytes _ | exact pu_nil | exact pu_vs rfl | exact pu_map (fun _ => .v _) _ | exact pu_vals _ | refine pu_app ?_ ?_ | refine pu_cons (by exact pu_of rfl) ?_))) ⟨.inl rfl, trivial⟩) (VLe.le (by repeat (first | exact trivial | refine And.intro (Nat.le_refl _) ?_ | refine And.intro trivial ?_ | refine And.intro (by show _ ≤ _; (first | omega | (simp only [LS] <;> omega))) ?_)))) ?_
  refine RG.op _ _ rfl rfl (o_assign (.own _ _ _ _ _) rfl) ?_
  refine RG.nil (h3_ _ ?_)
  refine WC.seq fun Fh4_ h4_ => ?_
  refine WC.seq fun Fh5_ h5_ => ?_
  have hb0 : (txB W 0 (tsM l) 0).length = (encB W.length).length := by simp [txB, wordsB, whB]
  refine WC.region ?_
  refine RG.op _ _ rfl rfl (o_assign (.v _) rfl) ?_
  refine RG.nil (h5_ _ ?_)
  refine WC.block ?_
  refine WC.loopU [4, 5, 13, 14, 15, 16, 17, 18, 19, 20, 21, 22, 23, 24, 25, 26, 27, 28, 29, 30, 31, 32, 33] (fun (k : Nat) => [(5, I64 ((k : Nat) : Int)), (4, ow 0 (txB W k (tsM l) 0).length 1)]) (fun (k : Nat) => [(0, tb 5 (txB W k (tsM l) 0).length (bytesD (txB W k (tsM l) 0)))]) (fun (k : Nat) => k ≤ W.length) (fun (k : Nat) => W.length - k) 0 (by first | omega | exact ubyte _ | (simp only [LS] <;> omega)) ?lpa6_ ?lpb7_
  case lpa6_ =>
    exact .mk' ⟨⟨rfl, .v _⟩, ⟨ow_eq (by simp [txB, wordsB, whB]), (by first | exact .own _ _ _ _ _ (Nat.le_refl _) | exact .ptr _ _ _ (Nat.le_refl _) | exact .omp _ _ (Nat.le_refl _))⟩, trivial⟩ (same_refl _ _) (congrArg (fun c => [c]) (tb_eq (by simp [txB, wordsB, whB]) (by simp [txB, wordsB, whB]))) (by repeat (first | exact trivial | refine And.intro (Nat.le_refl _) ?_ | refine And.intro trivial ?_ | refine And.intro (by show _ ≤ _; (first | omega | (simp only [LS] <;> omega))) ?_)) (by repeat (first | exact trivial | refine And.intro (one_ok (.own _ _ _ _ _ (Nat.le_refl _))) ?_ | refine And.intro (okp (by repeat (first | exact pu_bytes _ | exact pu_nil | exact pu_vs rfl | exact pu_map (fun _ => .v _) _ | exact pu_vals _ | refine pu_app ?_ ?_ | refine pu_cons (by exact pu_of rfl) ?_))) ?_))
  case lpb7_ =>
    rintro k hI
    have hbl := txB_len (W := W) (T := tsM l) (j := k) (k := 0) (by omega)
    have hbg := txB_ge W k (tsM l) 0
    refine WC.seq fun Fh8_ h8_ => ?_
    refine WC.seq fun Fh9_ h9_ => ?_
    refine WC.region ?_
    refine RG.op _ _ rfl rfl (o_move (.v _) rfl) ?_
    refine RG.op _ _ rfl rfl (o_move (.rd _ _) rfl) ?_
    refine RG.op _ _ rfl rfl (o_len_rd rfl Try.underlying72) ?_
    refine RG.op _ _ rfl rfl (o_ltI rfl rfl) ?_
    refine RG.nil (h9_ _ ?_)
    refine WC.cond _ rfl (fun c4 => ?_) (fun c4 => ?_)
    ·
      have p4 := c4
      try simp only [CN] at p4
      have hkw : k < W.length := by omega
      have hb1 := congrArg List.length (txB_w (T := tsM l) hkw)
      rw [List.length_append, List.length_append] at hb1
      have hsm := szT_mem (List.getElem_mem hkw)
      have he4 := encB_len10 (u := (W[k]'hkw).length) (by omega)
      refine WC.skip (h8_ _ ?_)
      refine WC.seq fun Fh10_ h10_ => ?_
      refine WC.block ?_
      refine WC.seq fun Fh11_ h11_ => ?_
      refine WC.region ?_
      refine RG.op _ _ rfl rfl (o_move (.own _ _ _ _ _) rfl) ?_
      refine RG.op _ _ rfl rfl (o_move (.rd _ _) rfl) ?_
      refine RG.op _ _ rfl rfl (o_move (.v _) rfl) ?_
      refine RG.op _ _ rfl rfl (o_ixn_M k rfl rfl Try.underlying72 (sz_of Ty.inf9) (by first | omega | exact ubyte _ | (simp only [LS] <;> omega)) (by first | omega | exact ubyte _ | (simp only [LS] <;> omega))) ?_
      refine RG.op _ _ rfl rfl (o_load_adr rfl Try.underlying9 rfl rfl) ?_
      refine RG.op _ _ rfl rfl (o_lenS rfl Try.underlying9) ?_
      refine RG.op _ _ rfl rfl ((o_i64toU rfl Try.underlying3 Try.underlying69).cast (congrArg N64 (lenU (by omega)))) ?_
      refine RG.op _ _ rfl rfl (o_call Ty.cal44 (rput_c (W[k]'hkw).length (by omega)) ⟨.inl rfl, trivial⟩ (by exact pua rfl)) ?_
      refine RG.op _ _ rfl rfl (o_appT (Elem.of Try.underlying24 Ty.inf5 rfl (by decide)) rfl rfl rfl (by first | omega | exact ubyte _ | (simp only [LS] <;> omega)) (by first | omega | exact ubyte _ | (simp only [LS] <;> omega)) (by repeat (first | exact bytesD_one _ | exact one_nil | exact one_map (fun _ => rfl) _ | exact one_vals _ | refine one_app ?_ ?_ | refine one_cons rfl ?_)) (by first | omega | exact ubyte _ | (simp only [LS] <;> omega)) (by first | omega | exact ubyte _ | (simp only [LS] <;> omega))) ?_
      refine RG.op _ _ rfl rfl (o_assign (.own _ _ _ _ _) rfl) ?_
      refine RG.nil (h11_ _ ?_)
      refine WC.region ?_
      refine RG.op _ _ rfl rfl (o_move (.own _ _ _ _ _) rfl) ?_
      refine RG.op _ _ rfl rfl (o_move (.rd _ _) rfl) ?_
      refine RG.op _ _ rfl rfl (o_move (.v _) rfl) ?_
      refine RG.op _ _ rfl rfl (o_ixn_M k rfl rfl Try.underlying72 (sz_of Ty.inf9) (by first | omega | exact ubyte _ | (simp only [LS] <;> omega)) (by first | omega | exact ubyte _ | (simp only [LS] <;> omega))) ?_
      refine RG.op _ _ rfl rfl (o_load_adr rfl Try.underlying9 rfl rfl) ?_
      refine RG.op _ _ rfl rfl (o_appS (Elem.of Try.underlying24 Ty.inf5 rfl (by decide)) rfl rfl Try.underlying9 Ty.inf5 rfl (by first | omega | exact ubyte _ | (simp only [LS] <;> omega)) (by first | omega | exact ubyte _ | (simp only [LS] <;> omega)) (by first | omega | exact ubyte _ | (simp only [LS] <;> omega))) ?_
      refine RG.op _ _ rfl rfl (o_assign (.own _ _ _ _ _) rfl) ?_
      refine RG.nil (h10_ _ ?_)
      refine WC.region ?_
      refine RG.op _ _ rfl rfl (o_move (.v _) rfl) ?_
      refine RG.op _ _ rfl rfl (o_add rfl rfl (by first | omega | exact ubyte _ | (simp only [LS] <;> omega)) (by first | omega | exact ubyte _ | (simp only [LS] <;> omega))) ?_
      refine RG.op _ _ rfl rfl (o_assign (.v _) rfl) ?_
      refine RG.nil (Exists.intro (k + 1) ⟨by first | omega | (simp only [LS] <;> omega), by first | omega | (simp only [LS] <;> omega), ?_⟩)
      exact .mk' ⟨⟨rfl, .v _⟩, ⟨ow_eq (by rw [txB_w hkw]; simp; omega), (by first | exact .own _ _ _ _ _ (Nat.le_refl _) | exact .ptr _ _ _ (Nat.le_refl _) | exact .omp _ _ (Nat.le_refl _))⟩, trivial⟩ (by repeat (first | with_reducible exact same_refl _ _ | with_reducible refine same_updO (by with_unfolding_all exact rfl) ?_ | with_reducible refine same_updN ?_ | with_reducible refine same_updL (by with_unfolding_all exact rfl) ?_ | with_reducible refine same_forget (by with_unfolding_all exact rfl) ?_)) (congrArg (fun c => [c]) (tb_eq (by rw [txB_w hkw]; simp; omega) (by rw [txB_w hkw]; simp [bytesD_app]))) (by repeat (first | exact trivial | refine And.intro (Nat.le_refl _) ?_ | refine And.intro trivial ?_ | refine And.intro (by show _ ≤ _; (first | omega | (simp only [LS] <;> omega))) ?_)) (by repeat (first | exact trivial | refine And.intro (one_ok (.own _ _ _ _ _ (Nat.le_refl _))) ?_ | refine And.intro (okp (by repeat (first | exact pu_bytes _ | exact pu_nil | exact pu_vs rfl | exact pu_map (fun _ => .v _) _ | exact pu_vals _ | refine pu_app ?_ ?_ | refine pu_cons (by exact pu_of rfl) ?_))) ?_))
    ·
      have p4 := c4
      try simp only [CN] at p4
      refine WC.exit (h4_ _ ?_)
      refine WC.seq fun Fh12_ h12_ => ?_
      refine WC.seq fun Fh13_ h13_ => ?_
      have hke : k = W.length := by omega
      subst hke
      refine WC.region ?_
      refine RG.op _ _ rfl rfl (o_assign (.v _) rfl) ?_
      refine RG.nil (h13_ _ ?_)
      refine WC.block ?_
      refine WC.loopU [4, 6, 34, 35, 36, 37, 38, 39, 40, 41, 42, 43, 44, 45, 46, 47, 48, 49, 50] (fun (j : Nat) => [(6, I64 ((j : Nat) : Int)), (4, ow 0 (txB W W.length (tsM l) j).length 1)]) (fun (j : Nat) => [(0, tb 5 (txB W W.length (tsM l) j).length (bytesD (txB W W.length (tsM l) j)))]) (fun (j : Nat) => j ≤ l.length) (fun (j : Nat) => l.length - j) 0 (by first | omega | exact ubyte _ | (simp only [LS] <;> omega)) ?lpa14_ ?lpb15_
      case lpa14_ =>
        exact .mk' ⟨⟨rfl, .v _⟩, ⟨rfl, (by first | exact .own _ _ _ _ _ (Nat.le_refl _) | exact .ptr _ _ _ (Nat.le_refl _) | exact .omp _ _ (Nat.le_refl _))⟩, trivial⟩ (same_refl _ _) (rfl) (by repeat (first | exact trivial | refine And.intro (Nat.le_refl _) ?_ | refine And.intro trivial ?_ | refine And.intro (by show _ ≤ _; (first | omega | (simp only [LS] <;> omega))) ?_)) (by repeat (first | exact trivial | refine And.intro (one_ok (.own _ _ _ _ _ (Nat.le_refl _))) ?_ | refine And.intro (okp (by repeat (first | exact pu_bytes _ | exact pu_nil | exact pu_vs rfl | exact pu_map (fun _ => .v _) _ | exact pu_vals _ | refine pu_app ?_ ?_ | refine pu_cons (by exact pu_of rfl) ?_))) ?_))
      case lpb15_ =>
        rintro j hI
        have hbl := txB_len (W := W) (T := tsM l) (j := W.length) (k := j) (by omega)
        have hbg := txB_ge W W.length (tsM l) j
        refine WC.seq fun Fh16_ h16_ => ?_
        refine WC.seq fun Fh17_ h17_ => ?_
        refine WC.region ?_
        refine RG.op _ _ rfl rfl (o_move (.v _) rfl) ?_
        refine RG.op _ _ rfl rfl (o_move (.rd _ _) rfl) ?_
        refine RG.op _ _ rfl rfl (o_len_rd rfl Try.underlying22) ?_
        refine RG.op _ _ rfl rfl (o_ltI rfl rfl) ?_
        refine RG.nil (h17_ _ ?_)
        refine WC.cond _ rfl (fun c9 => ?_) (fun c9 => ?_)
        ·
          have p9 := c9
          try simp only [CN] at p9
          have hjl : j < l.length := by omega
          have hb1 := congrArg List.length (txB_t (W := W) (T := tsM l) (j := W.length) (k := j) (by omega))
          rw [List.length_append] at hb1
          have hgw := getW l hjl
          have hwh := wh_le W (l[j]'hjl).t
          have he4 := encB_len10 (u := whM W (l[j]'hjl).t) (by omega)
          rw [← hgw] at hwh he4
          refine WC.skip (h16_ _ ?_)
          refine WC.seq fun Fh18_ h18_ => ?_
          refine WC.block ?_
          refine WC.region ?_
          refine RG.op _ _ rfl rfl (o_move (.own _ _ _ _ _) rfl) ?_
          refine RG.op _ _ rfl rfl (o_move (.rd _ _) rfl) ?_
          refine RG.op _ _ rfl rfl (o_move (.rd _ _) rfl) ?_
          refine RG.op _ _ rfl rfl (o_move (.v _) rfl) ?_
          refine RG.op _ _ rfl rfl (o_ixn_L j vc_len rfl rfl rfl Try.underlying22 (sz_of Ty.inf36) (by first | omega | exact ubyte _ | (simp only [LS] <;> omega)) (by first | omega | exact ubyte _ | (simp only [LS] <;> omega))) ?_
          refine RG.op _ _ rfl rfl (o_fld_adr rfl Try.underlying36 rfl (sz_of Ty.inf9) (by decide)) ?_
          refine RG.op _ _ rfl rfl ((o_load_adr (d := S (l[j]'hjl).t) rfl Try.underlying9 rfl rfl).cast (congrArg S hgw.symm)) ?_
          refine RG.op _ _ rfl rfl (o_call Ty.cal47 (which_c W ((tsM l)[j]'(by omega)) (by omega)) ⟨.inl rfl, .inl rfl, trivial⟩ (by exact pua rfl)) ?_
          refine RG.op _ _ rfl rfl ((o_i64toU rfl Try.underlying3 Try.underlying69).cast (congrArg N64 (lenU (by omega)))) ?_
          refine RG.op _ _ rfl rfl (o_call Ty.cal44 (rput_c (whM W ((tsM l)[j]'(by omega))) (by omega)) ⟨.inl rfl, trivial⟩ (by exact pua rfl)) ?_
          refine RG.op _ _ rfl rfl (o_appT (Elem.of Try.underlying24 Ty.inf5 rfl (by decide)) rfl rfl rfl (by first | omega | exact ubyte _ | (simp only [LS] <;> omega)) (by first | omega | exact ubyte _ | (simp only [LS] <;> omega)) (by repeat (first | exact bytesD_one _ | exact one_nil | exact one_map (fun _ => rfl) _ | exact one_vals _ | refine one_app ?_ ?_ | refine one_cons rfl ?_)) (by first | omega | exact ubyte _ | (simp only [LS] <;> omega)) (by first | omega | exact ubyte _ | (simp only [LS] <;> omega))) ?_
          refine RG.op _ _ rfl rfl (o_assign (.own _ _ _ _ _) rfl) ?_
          refine RG.nil (h18_ _ ?_)
          refine WC.region ?_
          refine RG.op _ _ rfl rfl (o_move (.v _) rfl) ?_
          refine RG.op _ _ rfl rfl (o_add rfl rfl (by first | omega | exact ubyte _ | (simp only [LS] <;> omega)) (by first | omega | exact ubyte _ | (simp only [LS] <;> omega))) ?_
          refine RG.op _ _ rfl rfl (o_assign (.v _) rfl) ?_
          refine RG.nil (Exists.intro (j + 1) ⟨by first | omega | (simp only [LS] <;> omega), by first | omega | (simp only [LS] <;> omega), ?_⟩)
          exact .mk' ⟨⟨rfl, .v _⟩, ⟨ow_eq (by rw [txB_t (by omega)]; simp), (by first | exact .own _ _ _ _ _ (Nat.le_refl _) | exact .ptr _ _ _ (Nat.le_refl _) | exact .omp _ _ (Nat.le_refl _))⟩, trivial⟩ (by repeat (first | with_reducible exact same_refl _ _ | with_reducible refine same_updO (by with_unfolding_all exact rfl) ?_ | with_reducible refine same_updN ?_ | with_reducible refine same_updL (by with_unfolding_all exact rfl) ?_ | with_reducible refine same_forget (by with_unfolding_all exact rfl) ?_)) (congrArg (fun c => [c]) (tb_eq (by rw [txB_t (by omega)]; simp) (by rw [txB_t (by omega)]; simp [bytesD_app]))) (by repeat (first | exact trivial | refine And.intro (Nat.le_refl _) ?_ | refine And.intro trivial ?_ | refine And.intro (by show _ ≤ _; (first | omega | (simp only [LS] <;> omega))) ?_)) (by repeat (first | exact trivial | refine And.intro (one_ok (.own _ _ _ _ _ (Nat.le_refl _))) ?_ | refine And.intro (okp (by repeat (first | exact pu_bytes _ | exact pu_nil | exact pu_vs rfl | exact pu_map (fun _ => .v _) _ | exact pu_vals _ | refine pu_app ?_ ?_ | refine pu_cons (by exact pu_of rfl) ?_))) ?_))
        ·
          have p9 := c9
          try simp only [CN] at p9
          refine WC.exit (h12_ _ ?_)
          refine WC.seq fun Fh19_ h19_ => ?_
          refine WC.region ?_
          refine RG.op _ _ rfl rfl (o_move (.own _ _ _ _ _) rfl) ?_
          refine RG.op _ _ rfl rfl (o_assign (.own _ _ _ _ _) rfl) ?_
          refine RG.nil (h19_ _ ?_)
          refine WC.ret ?_
          exact Ends.r1 rfl (.tmp _ (.own _ _ _ _ _) rfl) (.tb rfl (by repeat (first | exact pu_bytes _ | exact pu_nil | exact pu_vs rfl | exact pu_map (fun _ => .v _) _ | exact pu_vals _ | refine pu_app ?_ ?_ | refine pu_cons (by exact pu_of rfl) ?_))) (by have e : j = (tsM l).length := (by omega); subst e; rw [hW, txB_all])
end Go.Proofs.Ytpdjcfhmdeeikaa
namespace Go.Proofs.Ytpdjcfhmdeeikaa
open Go.RowKit Go.DL

set_option maxHeartbeats 4000000 in
theorem vputM_c (b : List UInt8) (u : Nat) (hb : b.length ≤ 10995116277760) (hu : u ≤ 18446744073709551615) : FunM Try.prog 54 [rdB b, N64 u] [] (fun o H' => o = .ret (ow 0 (b ++ encB u).length 1) ∧ H' = [tb 5 (b ++ encB u).length (bytesD (b ++ encB u))]) := by
  refine FunM.of Try.func54 rfl (Nat.le_of_ble_eq_true rfl) fun C => ?_
  refine WC.seq fun Fh1_ h1_ => ?_
  refine WC.region ?_
  refine RG.op _ _ rfl rfl (o_assign (.v _) rfl) ?_
  refine RG.nil (h1_ _ ?_)
  refine WC.seq fun Fh2_ h2_ => ?_
  refine WC.region ?_
  refine RG.op _ _ rfl rfl (o_move (.rd _ _) rfl) ?_
  refine RG.op _ _ rfl rfl (o_len_rd rfl Try.underlying24) ?_
  refine RG.op _ _ rfl rfl (o_move (.rd _ _) rfl) ?_
  refine RG.op _ _ rfl rfl (o_len_rd rfl Try.underlying24) ?_
  refine RG.op _ _ rfl rfl (o_add rfl rfl (by first | omega | exact ubyte _ | (simp only [LS] <;> omega)) (by first | omega | exact ubyte _ | (simp only [LS] <;> omega))) ?_
  refine RG.op _ _ rfl rfl (o_makeT b.length b.length (b.length + 10) rfl rfl Try.underlying24 Ty.inf5 rfl rfl (by first | omega | exact ubyte _ | (simp only [LS] <;> omega)) (by first | omega | exact ubyte _ | (simp only [LS] <;> omega)) (by first | omega | exact ubyte _ | (simp only [LS] <;> omega)) (by first | omega | exact ubyte _ | (simp only [LS] <;> omega)) (by first | omega | exact ubyte _ | (simp only [LS] <;> omega))) ?_
  refine RG.op _ _ rfl rfl (o_assign (.own _ _ _ _ _) rfl) ?_
  refine RG.nil (h2_ _ ?_)
  refine WC.seq fun Fh3_ h3_ => ?_
  refine WC.region ?_
  refine RG.op _ _ rfl rfl (o_move (.own _ _ _ _ _) rfl) ?_
  refine RG.op _ _ rfl rfl (o_move (.rd _ _) rfl) ?_
  refine RG.op _ _ rfl rfl (o_copyA rfl rfl Try.underlying24 (sz_of Ty.inf5) rfl rfl (by first | omega | exact ubyte _ | (simp only [LS] <;> omega)) rfl (by first | omega | exact ubyte _ | (simp only [LS] <;> omega)) (by repeat (first | exact bytesD_one _ | exact one_nil | exact one_map (fun _ => rfl) _ | exact one_vals _ | refine one_app ?_ ?_ | refine one_cons rfl ?_))) ?_
  refine RG.nil (h3_ _ ?_)
  refine WC.seq fun Fh4_ h4_ => ?_
  refine WC.block ?_
  refine WC.loopU [1, 5, 15, 16, 17, 18, 19, 20, 21, 22, 23, 24] (fun (p : List UInt8 × Nat) => [(1, N64 p.2), (5, ow 0 (b.length + p.1.length) 1)]) (fun (p : List UInt8 × Nat) => [(0, tb 5 (b.length + p.1.length) (bytesD (b ++ p.1)))]) (fun (p : List UInt8 × Nat) => p.1 ++ encB p.2 = encB u ∧ p.2 ≤ u) (fun (p : List UInt8 × Nat) => p.2) ([], u) ⟨rfl, Nat.le_refl _⟩ ?lpa5_ ?lpb6_
  case lpa5_ =>
    exact .mk' ⟨⟨rfl, .v _⟩, ⟨ow_eq (by simp), (by first | exact .own _ _ _ _ _ (Nat.le_refl _) | exact .ptr _ _ _ (Nat.le_refl _) | exact .omp _ _ (Nat.le_refl _))⟩, trivial⟩ (same_refl _ _) (congrArg (fun c => [c]) (tb_eq (by simp) (by simp))) (by repeat (first | exact trivial | refine And.intro (Nat.le_refl _) ?_ | refine And.intro trivial ?_ | refine And.intro (by show _ ≤ _; (first | omega | (simp only [LS] <;> omega))) ?_)) (by repeat (first | exact trivial | refine And.intro (one_ok (.own _ _ _ _ _ (Nat.le_refl _))) ?_ | refine And.intro (okp (by repeat (first | exact pu_plF _ _ | exact pu_bytes _ | exact pu_nil | exact pu_vs rfl | exact pu_map (fun _ => .v _) _ | exact pu_vals _ | refine pu_app ?_ ?_ | refine pu_cons (by exact pu_of rfl) ?_))) ?_))
  case lpb6_ =>
    rintro p hI
    obtain ⟨he, hp⟩ := id hI
    have hl := enc_lt2 hu he
    refine WC.seq fun Fh7_ h7_ => ?_
    refine WC.seq fun Fh8_ h8_ => ?_
    refine WC.region ?_
    refine RG.op _ _ rfl rfl (o_move (.v _) rfl) ?_
    refine RG.op _ _ rfl rfl (o_geI rfl rfl) ?_
    refine RG.nil (h8_ _ ?_)
    refine WC.cond _ rfl (fun c3 => ?_) (fun c3 => ?_)
    ·
      have p3 := c3
      try simp only [CN] at p3
      refine WC.skip (h7_ _ ?_)
      refine WC.block ?_
      refine WC.seq fun Fh9_ h9_ => ?_
      refine WC.region ?_
      refine RG.op _ _ rfl rfl (o_move (.own _ _ _ _ _) rfl) ?_
      refine RG.op _ _ rfl rfl (o_move (.v _) rfl) ?_
      refine RG.op _ _ rfl rfl (o_UtoB rfl Try.underlying69 Try.underlying5) ?_
      refine RG.op _ _ rfl rfl (o_orB (b := 128) rfl rfl) ?_
      refine RG.op _ _ rfl rfl (o_litP (cs := [(.v _)]) Try.underlying24 Ty.inf5 rfl rfl rfl rfl (by repeat (first | exact pu_plF _ _ | exact pu_bytes _ | exact pu_nil | exact pu_vs rfl | exact pu_map (fun _ => .v _) _ | exact pu_vals _ | refine pu_app ?_ ?_ | refine pu_cons (by exact pu_of rfl) ?_))) ?_
      refine RG.op _ _ rfl rfl (o_appT (Elem.of Try.underlying24 Ty.inf5 rfl (by decide)) rfl rfl rfl (by first | omega | exact ubyte _ | (simp only [LS] <;> omega)) (by first | omega | exact ubyte _ | (simp only [LS] <;> omega)) (by repeat (first | exact bytesD_one _ | exact one_nil | exact one_map (fun _ => rfl) _ | exact one_vals _ | refine one_app ?_ ?_ | refine one_cons rfl ?_)) (by first | omega | exact ubyte _ | (simp only [LS] <;> omega)) (by first | omega | exact ubyte _ | (simp only [LS] <;> omega))) ?_
      refine RG.op _ _ rfl rfl (o_assign (.own _ _ _ _ _) rfl) ?_
      refine RG.nil (h9_ _ ?_)
      refine WC.region ?_
      refine RG.op _ _ rfl rfl (o_move (.v _) rfl) ?_
      refine RG.op _ _ rfl rfl (o_shrU (n := 7) rfl rfl (by show _ ≤ 64; (first | omega | (simp only [LS] <;> omega)))) ?_
      refine RG.op _ _ rfl rfl (o_assign (.v _) rfl) ?_
      refine RG.nil (Exists.intro ((p.1 ++ [UInt8.ofNat (p.2 % 128 + 128)], p.2 / 128)) ⟨⟨by rw [← he, encB_big (u := p.2) (by omega), List.append_assoc]; rfl, by show p.2 / 128 ≤ u; omega⟩, by show p.2 / 128 < p.2; omega, ?_⟩)
      exact .mk' ⟨⟨rfl, .v _⟩, ⟨ow_eq (by simp; omega), (by first | exact .own _ _ _ _ _ (Nat.le_refl _) | exact .ptr _ _ _ (Nat.le_refl _) | exact .omp _ _ (Nat.le_refl _))⟩, trivial⟩ (by repeat (first | with_reducible exact same_refl _ _ | with_reducible refine same_updO (by with_unfolding_all exact rfl) ?_ | with_reducible refine same_updN ?_ | with_reducible refine same_updL (by with_unfolding_all exact rfl) ?_ | with_reducible refine same_forget (by with_unfolding_all exact rfl) ?_)) (congrArg (fun c => [c]) (tb_eq (by simp; omega) (by rw [or_128, ← List.append_assoc]; exact (bytesD_app _ [_]).symm))) (by repeat (first | exact trivial | refine And.intro (Nat.le_refl _) ?_ | refine And.intro trivial ?_ | refine And.intro (by show _ ≤ _; (first | omega | (simp only [LS] <;> omega))) ?_)) (by repeat (first | exact trivial | refine And.intro (one_ok (.own _ _ _ _ _ (Nat.le_refl _))) ?_ | refine And.intro (okp (by repeat (first | exact pu_plF _ _ | exact pu_bytes _ | exact pu_nil | exact pu_vs rfl | exact pu_map (fun _ => .v _) _ | exact pu_vals _ | refine pu_app ?_ ?_ | refine pu_cons (by exact pu_of rfl) ?_))) ?_))
    ·
      have p3 := c3
      try simp only [CN] at p3
      refine WC.exit (h4_ _ ?_)
      refine WC.seq fun Fh10_ h10_ => ?_
      refine WC.region ?_
      refine RG.op _ _ rfl rfl (o_move (.own _ _ _ _ _) rfl) ?_
      refine RG.op _ _ rfl rfl (o_move (.v _) rfl) ?_
      refine RG.op _ _ rfl rfl (o_UtoB rfl Try.underlying69 Try.underlying5) ?_
      refine RG.op _ _ rfl rfl (o_litP (cs := [(.v _)]) Try.underlying24 Ty.inf5 rfl rfl rfl rfl (by repeat (first | exact pu_plF _ _ | exact pu_bytes _ | exact pu_nil | exact pu_vs rfl | exact pu_map (fun _ => .v _) _ | exact pu_vals _ | refine pu_app ?_ ?_ | refine pu_cons (by exact pu_of rfl) ?_))) ?_
      refine RG.op _ _ rfl rfl (o_appT (Elem.of Try.underlying24 Ty.inf5 rfl (by decide)) rfl rfl rfl (by first | omega | exact ubyte _ | (simp only [LS] <;> omega)) (by first | omega | exact ubyte _ | (simp only [LS] <;> omega)) (by repeat (first | exact bytesD_one _ | exact one_nil | exact one_map (fun _ => rfl) _ | exact one_vals _ | refine one_app ?_ ?_ | refine one_cons rfl ?_)) (by first | omega | exact ubyte _ | (simp only [LS] <;> omega)) (by first | omega | exact ubyte _ | (simp only [LS] <;> omega))) ?_
      refine RG.op _ _ rfl rfl (o_assign (.own _ _ _ _ _) rfl) ?_
      refine RG.nil (h10_ _ ?_)
      refine WC.ret ?_
      first | refine endM.mk (H0 := []) 1 [_] rfl rfl (by repeat (first | exact trivial | refine And.intro (one_ok (.own _ _ _ _ _ (Nat.le_refl _))) ?_ | refine And.intro (okp (by repeat (first | exact pu_plF _ _ | exact pu_bytes _ | exact pu_nil | exact pu_vs rfl | exact pu_map (fun _ => .v _) _ | exact pu_vals _ | refine pu_app ?_ ?_ | refine pu_cons (by exact pu_of rfl) ?_))) ?_)) ?_ | (simp only [thenQ, blkQ, noGo]; refine endM.mk (H0 := []) 1 [_] rfl rfl (by repeat (first | exact trivial | refine And.intro (one_ok (.own _ _ _ _ _ (Nat.le_refl _))) ?_ | refine And.intro (okp (by repeat (first | exact pu_plF _ _ | exact pu_bytes _ | exact pu_nil | exact pu_vs rfl | exact pu_map (fun _ => .v _) _ | exact pu_vals _ | refine pu_app ?_ ?_ | refine pu_cons (by exact pu_of rfl) ?_))) ?_)) ?_) | refine endM.mk 1 [_] rfl rfl (by repeat (first | exact trivial | refine And.intro (one_ok (.own _ _ _ _ _ (Nat.le_refl _))) ?_ | refine And.intro (okp (by repeat (first | exact pu_plF _ _ | exact pu_bytes _ | exact pu_nil | exact pu_vs rfl | exact pu_map (fun _ => .v _) _ | exact pu_vals _ | refine pu_app ?_ ?_ | refine pu_cons (by exact pu_of rfl) ?_))) ?_)) ?_
      exact EndsM.r1 rfl (.tmp _ (.own _ _ _ _ _) rfl) (by first | exact .own _ _ _ _ _ (Nat.le_refl _) | exact .v _ | exact Pure'.ok (by exact pu_of rfl) _ | exact .tup _ (by repeat (first | exact ok_nil | refine ok_cons (by first | exact .own _ _ _ _ _ (Nat.le_refl _) | exact .ptr _ _ _ (Nat.le_refl _) | exact .v _ | exact Pure'.ok (by exact pu_of rfl) _) ?_))) (⟨congrArg DOut.ret (ow_eq (by rw [← he, encB_small (u := p.2) (by omega)]; simp; omega)), congrArg (fun c => [c]) (tb_eq (by rw [← he, encB_small (u := p.2) (by omega)]; simp; omega) (by rw [← he, encB_small (u := p.2) (by omega), ← List.append_assoc]; exact (bytesD_app _ [_]).symm))⟩)
theorem heq3 {α : Type} {a a' b b' c c' : α} (h1 : a = a') (h2 : b = b') (h3 : c = c') : [a, b, c] = [a', b', c'] := by rw [h1, h2, h3]
theorem heq4 {α : Type} {a a' b b' c c' d : α} (h1 : a = a') (h2 : b = b') (h3 : c = c') : [a, b, c, d] = [a', b', c', d] := by rw [h1, h2, h3]
theorem mb_eq {t : TypeId} {cs cs' : List D} (h : cs = cs') : (some ⟨cs, t, false, 0⟩ : Option Blk) = some ⟨cs', t, false, 0⟩ := by rw [h]
abbrev wT (T : List Txt) (k : Nat) : List Txt := wordsF (T.take k)
theorem getD_T {l : List Val} {k : Nat} (h : k < l.length) : (tsM l)[k]? = some l[k].t := by rw [List.getElem?_eq_getElem (by rw [tsM_len]; exact h), getW l h]
theorem wT_step {T : List Txt} {k : Nat} {t : Txt} (h : T[k]? = some t) : wT T (k + 1) = addW (wT T k) t := by
  have hk := (List.getElem?_eq_some_iff.1 h).1
  have e : T[k] = t := (List.getElem?_eq_some_iff.1 h).2
  rw [← e]; exact wordsF_take hk
theorem wT_wh {T : List Txt} {k : Nat} {t : Txt} (h : T[k]? = some t) : whM (wordsF T) t = whM (wT T (k + 1)) t := by
  have hk := (List.getElem?_eq_some_iff.1 h).1
  have e : T[k] = t := (List.getElem?_eq_some_iff.1 h).2
  rw [← e]; exact wh_words hk
theorem wT_whB {W T : List Txt} {k : Nat} {t : Txt} (h : T[k]? = some t) : whB W (T.take (k + 1)) = whB W (T.take k) ++ encB (whM W t) := by
  have hk := (List.getElem?_eq_some_iff.1 h).1
  have e : T[k] = t := (List.getElem?_eq_some_iff.1 h).2
  rw [← e]; exact whB_take hk
theorem wT_sz (T : List Txt) (k : Nat) : szT (wT T k) ≤ szT T ∧ (wT T k).length ≤ T.length := by
  have h1 := szT_words (T.take k)
  have h2 := szT_take T k
  have h3 := words_le (T.take k)
  rw [List.length_take] at h3
  show szT (wordsF (T.take k)) ≤ _ ∧ (wordsF (T.take k)).length ≤ _
  exact ⟨by omega, by omega⟩
theorem wh_add {w : List Txt} {t : Txt} (h : ¬ t ∈ w) : whM (addW w t) t = w.length := by
  have e : ∀ w : List Txt, ¬ t ∈ w → whM (w ++ [t]) t = w.length := by
    intro w
    induction w with
    | nil => intro _; show (if t = t then 0 else _) = 0; rw [if_pos rfl]
    | cons x w ih =>
      intro hn
      rw [List.cons_append, whM, if_neg (fun e => hn (by simp [e])), ih (fun e => hn (by simp [e]))]; rfl
  unfold addW
  rw [if_neg h]; exact e w h
set_option maxHeartbeats 4000000 in
theorem ptexts_c (l : List Val) (hl : szT (tsM l) ≤ 109951162777) : Fun Try.prog 39 [rdV l] (· = rdB (txM (tsM l))) := by
  obtain ⟨T, hT⟩ : ∃ T, T = tsM l := ⟨_, rfl⟩
  rw [← hT] at hl
  have htl : T.length = l.length := by rw [hT, tsM_len]
  have hsl := szT_len T
  have hWl := words_le T
  have hWs := szT_words T
  refine Fun.of Try.func39 rfl (Nat.le_of_ble_eq_true rfl) fun C => ?_
  refine WC.seq fun Fh1_ h1_ => ?_
  refine WC.region ?_
  refine RG.op _ _ rfl rfl (o_assign (.v _) rfl) ?_
  refine RG.nil (h1_ _ ?_)
  refine WC.seq fun Fh2_ h2_ => ?_
  refine WC.region ?_
  refine RG.op _ _ rfl rfl (o_makeMap trivial) ?_
  refine RG.op _ _ rfl rfl (o_assign (.omp _ _) rfl) ?_
  refine RG.nil (h2_ _ ?_)
  refine WC.seq fun Fh3_ h3_ => ?_
  refine WC.region ?_
  refine RG.op _ _ rfl rfl (o_nil 5 1) ?_
  refine RG.op _ _ rfl rfl (o_nil 5 1) ?_
  refine RG.nil (h3_ _ ?_)
  refine WC.seq fun Fh4_ h4_ => ?_
  refine WC.seq fun Fh5_ h5_ => ?_
  refine WC.region ?_
  refine RG.op _ _ rfl rfl (o_move (.rd _ _) rfl) ?_
  refine RG.op _ _ rfl rfl (o_len_rd rfl Try.underlying22) ?_
  refine RG.op _ _ rfl rfl (o_move (.v _) rfl) ?_
  refine RG.nil (h5_ _ ?_)
  refine WC.block ?_
  refine WC.loopU [4, 5, 7, 8, 9, 14, 15, 16, 17, 18, 19, 20, 21, 22, 23, 24, 25, 26, 27, 28, 29, 30, 31, 32, 33, 34, 35, 36, 37, 38, 39, 40, 41, 42, 43, 44, 45, 46, 47, 48, 49] (fun (k : Nat) => [(14, I64 ((k : Nat) : Int)), (4, ow 1 (wordsB (wT T k)).length 1), (5, ow 2 (whB (wordsF T) (T.take k)).length 1)]) (fun (k : Nat) => [(0, some ⟨plF 0 (wT T k), 78, false, 0⟩), (1, tb 5 (wordsB (wT T k)).length (bytesD (wordsB (wT T k)))), (2, tb 5 (whB (wordsF T) (T.take k)).length (bytesD (whB (wordsF T) (T.take k))))]) (fun (k : Nat) => k ≤ l.length) (fun (k : Nat) => l.length - k) 0 (by first | omega | exact ubyte _ | (simp only [LS] <;> omega)) ?lpa6_ ?lpb7_
  case lpa6_ =>
    exact .mk' ⟨⟨rfl, .v _⟩, ⟨rfl, (by first | exact .own _ _ _ _ _ (Nat.le_refl _) | exact .ptr _ _ _ (Nat.le_refl _) | exact .omp _ _ (Nat.le_refl _))⟩, ⟨rfl, (by first | exact .own _ _ _ _ _ (Nat.le_refl _) | exact .ptr _ _ _ (Nat.le_refl _) | exact .omp _ _ (Nat.le_refl _))⟩, trivial⟩ (same_refl _ _) (rfl) (by repeat (first | exact trivial | refine And.intro (Nat.le_refl _) ?_ | refine And.intro trivial ?_ | refine And.intro (by show _ ≤ _; (first | omega | (simp only [LS] <;> omega))) ?_)) (by repeat (first | exact trivial | refine And.intro (one_ok (.own _ _ _ _ _ (Nat.le_refl _))) ?_ | refine And.intro (okp (by repeat (first | exact pu_plF _ _ | exact pu_bytes _ | exact pu_nil | exact pu_vs rfl | exact pu_map (fun _ => .v _) _ | exact pu_vals _ | refine pu_app ?_ ?_ | refine pu_cons (by exact pu_of rfl) ?_))) ?_))
  case lpb7_ =>
    rintro k hI
    have hsz := wT_sz T k
    have hbl := wordsB_len (w := wT T k) (by omega)
    have hpl := plF_len (wT T k) 0
    have hwl := whB_len (W := wordsF T) (l := T.take k) (by omega)
    rw [List.length_take] at hwl
    refine WC.seq fun Fh8_ h8_ => ?_
    refine WC.region ?_
    refine RG.op _ _ rfl rfl (o_ltI rfl rfl) ?_
    refine RG.nil (h8_ _ ?_)
    refine WC.seq fun Fh9_ h9_ => ?_
    refine WC.cond _ rfl (fun c4 => ?_) (fun c4 => ?_)
    ·
      have p4 := c4
      try simp only [CN] at p4
      have hkl : k < l.length := by omega
      have hTk : T[k]? = some l[k].t := by rw [hT]; exact getD_T hkl
      have hsm := szT_mem (List.mem_of_getElem? hTk)
      have he4 := encB_len10 (u := (l[k]'hkl).t.length) (by omega)
      have hst := wT_step hTk
      have hwh := wT_wh hTk
      have hwle := wh_le (wordsF T) (l[k]'hkl).t
      have he5 := encB_len10 (u := whM (wordsF T) (l[k]'hkl).t) (by omega)
      have hb2 := congrArg List.length (wT_whB (W := wordsF T) hTk)
      rw [List.length_append] at hb2
      have hb3 : (wordsB (wT T (k + 1))).length ≤ (wordsB (wT T k)).length + ((encB (l[k]'hkl).t.length).length + (l[k]'hkl).t.length) ∧ (wordsB (wT T k)).length ≤ (wordsB (wT T (k + 1))).length := by rw [hst]; unfold addW; split; omega; (rw [wordsB_snoc, List.length_append, wB, List.length_append]; omega)
      refine WC.skip (h9_ _ ?_)
      refine WC.seq fun Fh10_ h10_ => ?_
      refine WC.block ?_
      refine WC.seq fun Fh11_ h11_ => ?_
      refine WC.region ?_
      refine RG.op _ _ rfl rfl (o_ixn_L k vc_len rfl rfl rfl Try.underlying22 (sz_of Ty.inf36) (by first | omega | exact ubyte _ | (simp only [LS] <;> omega)) (by first | omega | exact ubyte _ | (simp only [LS] <;> omega))) ?_
      refine RG.op _ _ rfl rfl (o_load_adr_L (xs := [_, _, _]) rfl Try.underlying36 rfl (sz_of Ty.inf36) rfl) ?_
      refine RG.op _ _ rfl rfl (o_alloc (z_of Ty.inf36) rfl) ?_
      refine RG.op _ _ rfl rfl (o_store (d := (.agg [_, _, _])) rfl rfl rfl rfl (sz_of Ty.inf36) (Nat.le_of_ble_eq_true rfl) rfl) ?_
      refine RG.nil (h11_ _ ?_)
      refine WC.seq fun Fh12_ h12_ => ?_
      refine WC.region ?_
      refine RG.op _ _ rfl rfl (o_move (.omp _ _) rfl) ?_
      refine RG.op _ _ rfl rfl (o_fld_ptr rfl Try.underlying36 rfl (sz_of Ty.inf9) (by decide)) ?_
      refine RG.op _ _ rfl rfl (o_load_ptr rfl Try.underlying9 rfl rfl rfl rfl) ?_
      refine RG.op _ _ rfl rfl (o_place (w := wT T k) (t := (l[k]'hkl).t) rfl rfl rfl rfl rfl) ?_
      refine RG.op _ _ rfl rfl (o_move (.tup _) rfl) ?_
      refine RG.op _ _ rfl rfl (o_extract rfl rfl) ?_
      refine RG.op _ _ rfl rfl (o_extract rfl rfl) ?_
      refine RG.op _ _ rfl rfl (o_assign (.v _) rfl) ?_
      refine RG.op _ _ rfl rfl (o_assign (.v _) rfl) ?_
      refine RG.nil (h12_ _ ?_)
      refine WC.joinU [4, 8, 25, 26, 27, 28, 29, 30, 31, 32, 33, 34, 35, 36, 37, 38, 39, 40, 41, 42, 43] (fun (u : Unit) => [(8, I64 (((whM (wordsF T) (l[k]'hkl).t) : Nat) : Int)), (4, ow 1 (wordsB (wT T (k + 1))).length 1), (5, ow 2 (whB (wordsF T) (T.take k)).length 1)]) (fun (u : Unit) => [(0, some ⟨plF 0 (wT T (k + 1)), 78, false, 0⟩), (1, tb 5 (wordsB (wT T (k + 1))).length (bytesD (wordsB (wT T (k + 1)))))]) (fun (u : Unit) => True) ?_ ?_
      ·
        refine WC.seq fun Fh13_ h13_ => ?_
        refine WC.region ?_
        refine RG.op _ _ rfl rfl (o_move (.v _) rfl) ?_
        refine RG.op _ _ rfl rfl (o_not rfl) ?_
        refine RG.nil (h13_ _ ?_)
        refine WC.cond _ rfl (fun c7 => ?_) (fun c7 => ?_)
        ·
          have p7 := c7
          try simp only [CN] at p7
          have hno : ¬ (l[k]'hkl).t ∈ wT T k := p7
          have hadd : wT T (k + 1) = wT T k ++ [(l[k]'hkl).t] := by rw [hst]; unfold addW; rw [if_neg hno]
          refine WC.seq fun Fh14_ h14_ => ?_
          refine WC.region ?_
          refine RG.op _ _ rfl rfl (o_move (.omp _ _) rfl) ?_
          refine RG.op _ _ rfl rfl ((o_len_omp rfl Try.underlying78 rfl rfl).cast (congrArg I64 (congrArg (fun n : Nat => (n : Int)) hpl))) ?_
          refine RG.op _ _ rfl rfl (o_assign (.v _) rfl) ?_
          refine RG.nil (h14_ _ ?_)
          refine WC.seq fun Fh15_ h15_ => ?_
          refine WC.region ?_
          refine RG.op _ _ rfl rfl (o_move (.omp _ _) rfl) ?_
          refine RG.op _ _ rfl rfl (o_fld_ptr rfl Try.underlying36 rfl (sz_of Ty.inf9) (by decide)) ?_
          refine RG.op _ _ rfl rfl (o_load_ptr rfl Try.underlying9 rfl rfl rfl rfl) ?_
          refine RG.op _ _ rfl rfl (o_move (.v _) rfl) ?_
          refine RG.op _ _ rfl rfl (o_mapNew (d := I64 ((wT T k).length : Nat)) rfl rfl rfl Try.underlying78 Try.underlying9 rfl rfl rfl (by show kFind _ _ (keysD (plF 0 (wT T k))) 0 = _; rw [plF_keys]; exact find_miss 0 hno)) ?_
          refine RG.nil (h15_ _ ?_)
          refine WC.seq fun Fh16_ h16_ => ?_
          refine WC.region ?_
          refine RG.op _ _ rfl rfl (o_move (.own _ _ _ _ _) rfl) ?_
          refine RG.op _ _ rfl rfl (o_fld_ptr rfl Try.underlying36 rfl (sz_of Ty.inf9) (by decide)) ?_
          refine RG.op _ _ rfl rfl (o_load_ptr (d := S (l[k]'hkl).t) rfl Try.underlying9 rfl rfl rfl rfl) ?_
          refine RG.op _ _ rfl rfl (o_lenS rfl Try.underlying9) ?_
          refine RG.op _ _ rfl rfl ((o_i64toU rfl Try.underlying3 Try.underlying69).cast (congrArg N64 (lenU (by omega)))) ?_
          refine RG.op _ _ rfl rfl (o_call Ty.cal54 (vput_c [] (l[k]'hkl).t.length (by first | omega | exact ubyte _ | (simp only [LS] <;> omega)) (by omega)) ⟨.inr ⟨rfl, rfl⟩, .inl rfl, trivial⟩ (by exact pua rfl)) ?_
          refine RG.op _ _ rfl rfl (o_appT (Elem.of Try.underlying24 Ty.inf5 rfl (by decide)) rfl rfl rfl (by first | omega | exact ubyte _ | (simp only [LS] <;> omega)) (by first | omega | exact ubyte _ | (simp only [LS] <;> omega)) (by repeat (first | exact bytesD_one _ | exact one_nil | exact one_map (fun _ => rfl) _ | exact one_vals _ | refine one_app ?_ ?_ | refine one_cons rfl ?_)) (by first | omega | exact ubyte _ | (simp only [LS] <;> omega)) (by first | omega | exact ubyte _ | (simp only [LS] <;> omega))) ?_
          refine RG.op _ _ rfl rfl (o_assign (.own _ _ _ _ _) rfl) ?_
          refine RG.nil (h16_ _ ?_)
          refine WC.region ?_
          refine RG.op _ _ rfl rfl (o_move (.own _ _ _ _ _) rfl) ?_
          refine RG.op _ _ rfl rfl (o_fld_ptr rfl Try.underlying36 rfl (sz_of Ty.inf9) (by decide)) ?_
          refine RG.op _ _ rfl rfl (o_load_ptr (d := S (l[k]'hkl).t) rfl Try.underlying9 rfl rfl rfl rfl) ?_
          refine RG.op _ _ rfl rfl (o_appS (Elem.of Try.underlying24 Ty.inf5 rfl (by decide)) rfl rfl Try.underlying9 Ty.inf5 rfl (by first | omega | exact ubyte _ | (simp only [LS] <;> omega)) (by first | omega | exact ubyte _ | (simp only [LS] <;> omega)) (by first | omega | exact ubyte _ | (simp only [LS] <;> omega))) ?_
          refine RG.op _ _ rfl rfl (o_assign (.own _ _ _ _ _) rfl) ?_
          refine RG.nil (Exists.intro (()) ⟨by first | omega | (simp only [LS] <;> omega), ?_⟩)
          exact .mk' ⟨⟨congrArg I64 (by rw [hwh, hst, wh_add hno]), .v _⟩, ⟨ow_eq (by rw [hadd, wordsB_snoc]; simp [wB]; omega), (by first | exact .own _ _ _ _ _ (Nat.le_refl _) | exact .ptr _ _ _ (Nat.le_refl _) | exact .omp _ _ (Nat.le_refl _))⟩, ⟨rfl, (by first | exact .own _ _ _ _ _ (Nat.le_refl _) | exact .ptr _ _ _ (Nat.le_refl _) | exact .omp _ _ (Nat.le_refl _))⟩, trivial⟩ (by repeat (first | with_reducible exact same_refl _ _ | with_reducible refine same_updO (by with_unfolding_all exact rfl) ?_ | with_reducible refine same_updN ?_ | with_reducible refine same_updL (by with_unfolding_all exact rfl) ?_ | with_reducible refine same_forget (by with_unfolding_all exact rfl) ?_)) (heq4 (mb_eq (by rw [hadd, plF_snoc])) (tb_eq (by rw [hadd, wordsB_snoc]; simp [wB]; omega) (by rw [hadd, wordsB_snoc]; simp [wB, bytesD_app])) rfl) (by repeat (first | exact trivial | refine And.intro (Nat.le_refl _) ?_ | refine And.intro trivial ?_ | refine And.intro (by show _ ≤ _; (first | omega | (simp only [LS] <;> omega))) ?_)) (by repeat (first | exact trivial | refine And.intro (one_ok (.own _ _ _ _ _ (Nat.le_refl _))) ?_ | refine And.intro (okp (by repeat (first | exact pu_plF _ _ | exact pu_bytes _ | exact pu_nil | exact pu_vs rfl | exact pu_map (fun _ => .v _) _ | exact pu_vals _ | refine pu_app ?_ ?_ | refine pu_cons (by exact pu_of rfl) ?_))) ?_))
        ·
          have p7 := c7
          try simp only [CN] at p7
          have hmem : (l[k]'hkl).t ∈ wT T k := p7
          have hsame : wT T (k + 1) = wT T k := by rw [hst]; unfold addW; rw [if_pos hmem]
          refine WC.skip (Exists.intro (()) ⟨by first | omega | (simp only [LS] <;> omega), ?_⟩)
          exact .mk' ⟨⟨congrArg I64 (by rw [if_pos hmem, hwh, hsame]), .v _⟩, ⟨ow_eq (by rw [hsame]), (by first | exact .own _ _ _ _ _ (Nat.le_refl _) | exact .ptr _ _ _ (Nat.le_refl _) | exact .omp _ _ (Nat.le_refl _))⟩, ⟨rfl, (by first | exact .own _ _ _ _ _ (Nat.le_refl _) | exact .ptr _ _ _ (Nat.le_refl _) | exact .omp _ _ (Nat.le_refl _))⟩, trivial⟩ (by repeat (first | with_reducible exact same_refl _ _ | with_reducible refine same_updO (by with_unfolding_all exact rfl) ?_ | with_reducible refine same_updN ?_ | with_reducible refine same_updL (by with_unfolding_all exact rfl) ?_ | with_reducible refine same_forget (by with_unfolding_all exact rfl) ?_)) (heq4 (mb_eq (by rw [hsame])) (tb_eq (by rw [hsame]) (by rw [hsame])) rfl) (by repeat (first | exact trivial | refine And.intro (Nat.le_refl _) ?_ | refine And.intro trivial ?_ | refine And.intro (by show _ ≤ _; (first | omega | (simp only [LS] <;> omega))) ?_)) (by repeat (first | exact trivial | refine And.intro (one_ok (.own _ _ _ _ _ (Nat.le_refl _))) ?_ | refine And.intro (okp (by repeat (first | exact pu_plF _ _ | exact pu_bytes _ | exact pu_nil | exact pu_vs rfl | exact pu_map (fun _ => .v _) _ | exact pu_vals _ | refine pu_app ?_ ?_ | refine pu_cons (by exact pu_of rfl) ?_))) ?_))
      ·
        rintro u hI
        refine WC.region ?_
        refine RG.op _ _ rfl rfl (o_move (.own _ _ _ _ _) rfl) ?_
        refine RG.op _ _ rfl rfl (o_move (.v _) rfl) ?_
        refine RG.op _ _ rfl rfl ((o_i64toU rfl Try.underlying3 Try.underlying69).cast (congrArg N64 (lenU (by omega)))) ?_
        refine RG.op _ _ rfl rfl (o_call Ty.cal54 (vput_c [] (whM (wordsF T) (l[k]'hkl).t) (by first | omega | exact ubyte _ | (simp only [LS] <;> omega)) (by omega)) ⟨.inr ⟨rfl, rfl⟩, .inl rfl, trivial⟩ (by exact pua rfl)) ?_
        refine RG.op _ _ rfl rfl (o_appT (Elem.of Try.underlying24 Ty.inf5 rfl (by decide)) rfl rfl rfl (by first | omega | exact ubyte _ | (simp only [LS] <;> omega)) (by first | omega | exact ubyte _ | (simp only [LS] <;> omega)) (by repeat (first | exact bytesD_one _ | exact one_nil | exact one_map (fun _ => rfl) _ | exact one_vals _ | refine one_app ?_ ?_ | refine one_cons rfl ?_)) (by first | omega | exact ubyte _ | (simp only [LS] <;> omega)) (by first | omega | exact ubyte _ | (simp only [LS] <;> omega))) ?_
        refine RG.op _ _ rfl rfl (o_assign (.own _ _ _ _ _) rfl) ?_
        refine RG.nil (h10_ _ ?_)
        refine WC.region ?_
        refine RG.op _ _ rfl rfl (o_add rfl rfl (by first | omega | exact ubyte _ | (simp only [LS] <;> omega)) (by first | omega | exact ubyte _ | (simp only [LS] <;> omega))) ?_
        refine RG.op _ _ rfl rfl (o_move (.v _) rfl) ?_
        refine RG.nil (Exists.intro (k + 1) ⟨by first | omega | (simp only [LS] <;> omega), by first | omega | (simp only [LS] <;> omega), ?_⟩)
        exact .mk' ⟨⟨rfl, .v _⟩, ⟨rfl, (by first | exact .own _ _ _ _ _ (Nat.le_refl _) | exact .ptr _ _ _ (Nat.le_refl _) | exact .omp _ _ (Nat.le_refl _))⟩, ⟨ow_eq (by rw [wT_whB hTk]; simp), (by first | exact .own _ _ _ _ _ (Nat.le_refl _) | exact .ptr _ _ _ (Nat.le_refl _) | exact .omp _ _ (Nat.le_refl _))⟩, trivial⟩ (by repeat (first | with_reducible exact same_refl _ _ | with_reducible refine same_updO (by with_unfolding_all exact rfl) ?_ | with_reducible refine same_updN ?_ | with_reducible refine same_updL (by with_unfolding_all exact rfl) ?_ | with_reducible refine same_forget (by with_unfolding_all exact rfl) ?_)) (heq3 rfl rfl (tb_eq (by rw [wT_whB hTk]; simp) (by rw [wT_whB hTk]; simp [bytesD_app]))) (by repeat (first | exact trivial | refine And.intro (Nat.le_refl _) ?_ | refine And.intro trivial ?_ | refine And.intro (by show _ ≤ _; (first | omega | (simp only [LS] <;> omega))) ?_)) (by repeat (first | exact trivial | refine And.intro (one_ok (.own _ _ _ _ _ (Nat.le_refl _))) ?_ | refine And.intro (okp (by repeat (first | exact pu_plF _ _ | exact pu_bytes _ | exact pu_nil | exact pu_vs rfl | exact pu_map (fun _ => .v _) _ | exact pu_vals _ | refine pu_app ?_ ?_ | refine pu_cons (by exact pu_of rfl) ?_))) ?_))
    ·
      have p4 := c4
      try simp only [CN] at p4
      refine WC.exit (h4_ _ ?_)
      refine WC.seq fun Fh17_ h17_ => ?_
      have hke : k = T.length := by omega
      subst hke
      have hwT : wT T T.length = wordsF T := by show wordsF (T.take T.length) = _; rw [List.take_length]
      have hWc := encB_len10 (u := (wordsF T).length) (by omega)
      rw [hwT] at hbl
      have hwT2 : (wordsB (wT T T.length)).length = (wordsB (wordsF T)).length := by rw [hwT]
      have hwT3 : (whB (wordsF T) (T.take T.length)).length = (whB (wordsF T) T).length := by rw [List.take_length]
      refine WC.region ?_
      refine RG.op _ _ rfl rfl (o_move (.omp _ _) rfl) ?_
      refine RG.op _ _ rfl rfl ((o_len_omp rfl Try.underlying78 rfl rfl).cast (congrArg I64 (by show (((plF 0 (wT T T.length)).length : Nat) : Int) = _; rw [plF_len, hwT]))) ?_
      refine RG.op _ _ rfl rfl ((o_i64toU rfl Try.underlying3 Try.underlying69).cast (congrArg N64 (lenU (by omega)))) ?_
      refine RG.op _ _ rfl rfl (OpX.d (x_call Ty.cal54 (FunM.new1 (vputM_c [] _ (by first | omega | exact ubyte _ | (simp only [LS] <;> omega)) (by first | omega | exact ubyte _ | (simp only [LS] <;> omega))) ⟨.rd _ _, .v _, trivial⟩ (by repeat (first | exact pu_plF _ _ | exact pu_bytes _ | exact pu_nil | exact pu_vs rfl | exact pu_map (fun _ => .v _) _ | exact pu_vals _ | refine pu_app ?_ ?_ | refine pu_cons (by exact pu_of rfl) ?_))) ⟨.inr ⟨rfl, rfl⟩, .inl rfl, trivial⟩) (VLe.le (by repeat (first | exact trivial | refine And.intro (Nat.le_refl _) ?_ | refine And.intro trivial ?_ | refine And.intro (by show _ ≤ _; (first | omega | (simp only [LS] <;> omega))) ?_)))) ?_
      refine RG.op _ _ rfl rfl (o_assign (.own _ _ _ _ _) rfl) ?_
      refine RG.nil (h17_ _ ?_)
      refine WC.seq fun Fh18_ h18_ => ?_
      refine WC.frz 1 _ [(4, rdB (wordsB (wT T T.length)))] rfl (by repeat (first | exact pu_plF _ _ | exact pu_bytes _ | exact pu_nil | exact pu_vs rfl | exact pu_map (fun _ => .v _) _ | exact pu_vals _ | refine pu_app ?_ ?_ | refine pu_cons (by exact pu_of rfl) ?_)) ⟨.rowE rfl (by first | rfl | omega | simp) (by first | rfl | simp [bytesD]), trivial⟩ ?_
      refine WC.frz 2 _ [(5, rdB (whB (wordsF T) (T.take T.length)))] rfl (by repeat (first | exact pu_plF _ _ | exact pu_bytes _ | exact pu_nil | exact pu_vs rfl | exact pu_map (fun _ => .v _) _ | exact pu_vals _ | refine pu_app ?_ ?_ | refine pu_cons (by exact pu_of rfl) ?_)) ⟨.rowE rfl (by first | rfl | omega | simp) (by first | rfl | simp [bytesD]), trivial⟩ ?_
      refine WC.region ?_
      refine RG.op _ _ rfl rfl (o_move (.own _ _ _ _ _) rfl) ?_
      refine RG.op _ _ rfl rfl (o_move (.rd _ _) rfl) ?_
      refine RG.op _ _ rfl rfl (o_appT (Elem.of Try.underlying24 Ty.inf5 rfl (by decide)) rfl rfl rfl (by first | omega | exact ubyte _ | (simp only [LS] <;> omega)) (by first | omega | exact ubyte _ | (simp only [LS] <;> omega)) (by repeat (first | exact bytesD_one _ | exact one_nil | exact one_map (fun _ => rfl) _ | exact one_vals _ | refine one_app ?_ ?_ | refine one_cons rfl ?_)) (by first | omega | exact ubyte _ | (simp only [LS] <;> omega)) (by first | omega | exact ubyte _ | (simp only [LS] <;> omega))) ?_
      refine RG.op _ _ rfl rfl (o_move (.rd _ _) rfl) ?_
      refine RG.op _ _ rfl rfl (o_appT (Elem.of Try.underlying24 Ty.inf5 rfl (by decide)) rfl rfl rfl (by first | omega | exact ubyte _ | (simp only [LS] <;> omega)) (by first | omega | exact ubyte _ | (simp only [LS] <;> omega)) (by repeat (first | exact bytesD_one _ | exact one_nil | exact one_map (fun _ => rfl) _ | exact one_vals _ | refine one_app ?_ ?_ | refine one_cons rfl ?_)) (by first | omega | exact ubyte _ | (simp only [LS] <;> omega)) (by first | omega | exact ubyte _ | (simp only [LS] <;> omega))) ?_
      refine RG.op _ _ rfl rfl (o_assign (.own _ _ _ _ _) rfl) ?_
      refine RG.nil (h18_ _ ?_)
      refine WC.ret ?_
      exact Ends.r1 rfl (.tmp _ (.own _ _ _ _ _) rfl) (.tb rfl (by repeat (first | exact pu_plF _ _ | exact pu_bytes _ | exact pu_nil | exact pu_vs rfl | exact pu_map (fun _ => .v _) _ | exact pu_vals _ | refine pu_app ?_ ?_ | refine pu_cons (by exact pu_of rfl) ?_))) (by rw [← hT]; unfold txM; rw [hwT, List.take_length]; exact rd_eq (by simp; omega) (by simp [bytesD_app]))
end Go.Proofs.Ytpdjcfhmdeeikaa
namespace Go.Proofs.Ytpdjcfhmdeeikaa
open Go.RowKit Go.DL

/-! ### Words that are unlike -/
theorem fold_full : ∀ (l w : List Txt), (l.foldl addW w).length = w.length + l.length → l.foldl addW w = w ++ l
  | [], w, _ => by simp
  | t :: l, w, h => by
    have hb : ∀ (l w : List Txt), (l.foldl addW w).length ≤ w.length + l.length := by
      intro l
      induction l with
      | nil => intro w; exact Nat.le_refl _
      | cons t l ih =>
        intro w
        have h1 := ih (addW w t)
        have h2 : (addW w t).length ≤ w.length + 1 := by unfold addW; split; omega; simp
        rw [List.foldl_cons, List.length_cons]; omega
    rw [List.foldl_cons] at h ⊢
    have h1 := hb l (addW w t)
    rw [List.length_cons] at h
    have e : addW w t = w ++ [t] := by
      by_cases hm : t ∈ w
      · have : addW w t = w := by unfold addW; rw [if_pos hm]
        rw [this] at h h1; omega
      · unfold addW; rw [if_neg hm]
    rw [e] at h ⊢
    rw [fold_full l (w ++ [t]) (by rw [h]; simp; omega)]; simp
theorem words_full {W : List Txt} : (wordsF W).length = W.length ↔ wordsF W = W := by
  constructor
  · intro h
    have := fold_full W [] (by unfold wordsF at h; rw [h]; simp)
    simpa [wordsF] using this
  · intro h; rw [h]
theorem fold_nodup : ∀ (l w : List Txt), w.Nodup → (l.foldl addW w).Nodup
  | [], w, h => h
  | t :: l, w, h => by
    rw [List.foldl_cons]
    refine fold_nodup l _ ?_
    unfold addW
    split
    · exact h
    · rename_i hm
      rw [List.nodup_append]
      exact ⟨h, by simp, fun a ha b hb => by rw [List.mem_singleton] at hb; subst hb; intro e; subst e; exact hm ha⟩
theorem words_nodup (l : List Txt) : (wordsF l).Nodup := fold_nodup l [] List.nodup_nil
theorem fold_self : ∀ (l w : List Txt), (w ++ l).Nodup → l.foldl addW w = w ++ l
  | [], w, _ => by simp
  | t :: l, w, h => by
    have hm : ¬ t ∈ w := fun hw => by
      rw [List.nodup_append] at h
      exact h.2.2 t hw t (by simp) rfl
    rw [List.foldl_cons]
    have e : addW w t = w ++ [t] := by unfold addW; rw [if_neg hm]
    rw [e, fold_self l (w ++ [t]) (by simpa using h)]; simp
theorem words_self {W : List Txt} (h : W.Nodup) : wordsF W = W := by
  have := fold_self W [] (by simpa using h)
  simpa [wordsF] using this
/-- How many marks were new, and whether each new one was the next. -/
def sN (p : List Nat) : Nat × Bool := p.foldl (fun q i => if i = q.1 then (q.1 + 1, q.2) else if q.1 < i then (q.1, false) else q) (0, true)
theorem sN_snoc (p : List Nat) (i : Nat) : sN (p ++ [i]) = if i = (sN p).1 then ((sN p).1 + 1, (sN p).2) else if (sN p).1 < i then ((sN p).1, false) else sN p := by unfold sN; rw [List.foldl_append]; rfl
theorem nodup_at {W : List Txt} (h : W.Nodup) {i j : Nat} (hi : i < W.length) (hj : j < W.length) (e : W.getD i [] = W.getD j []) : i = j := by
  rw [List.getD_eq_getElem?_getD, List.getElem?_eq_getElem hi, List.getD_eq_getElem?_getD, List.getElem?_eq_getElem hj] at e
  have hp := List.pairwise_iff_getElem.1 h
  rcases Nat.lt_trichotomy i j with hlt | heq | hgt
  · exact absurd e (hp i j hi hj hlt)
  · exact heq
  · exact absurd e.symm (hp j i hj hi hgt)
theorem mem_takeD {W : List Txt} {i s : Nat} (h : i < s) (hi : i < W.length) : W.getD i [] ∈ W.take s := by
  rw [List.mem_iff_getElem?]
  refine ⟨i, ?_⟩
  rw [List.getElem?_take, if_pos h, List.getElem?_eq_getElem hi, List.getD_eq_getElem?_getD, List.getElem?_eq_getElem hi]; rfl
theorem not_takeD {W : List Txt} (hn : W.Nodup) {i s : Nat} (h : s ≤ i) (hi : i < W.length) : ¬ W.getD i [] ∈ W.take s := fun hm => by
  rw [List.mem_iff_getElem?] at hm
  obtain ⟨j, hj⟩ := hm
  rw [List.getElem?_take] at hj
  split at hj
  · rename_i hjs
    have hjl := (List.getElem?_eq_some_iff.1 hj).1
    have := nodup_at hn hi hjl (by rw [List.getD_eq_getElem?_getD (i := j), hj]; rfl)
    omega
  · cases hj
theorem take_succD {W : List Txt} {s : Nat} (h : s < W.length) : W.take (s + 1) = W.take s ++ [W.getD s []] := by
  rw [List.take_succ_eq_append_getElem h, List.getD_eq_getElem?_getD, List.getElem?_eq_getElem h]; rfl
abbrev atW (W : List Txt) (p : List Nat) : List Txt := p.map fun i => W.getD i []
theorem atW_snoc (W : List Txt) (p : List Nat) (i : Nat) : wordsF (atW W (p ++ [i])) = addW (wordsF (atW W p)) (W.getD i []) := by
  unfold atW; rw [List.map_append]; exact wordsF_snoc _ _
theorem rev_ind {α : Type} {m : List α → Prop} (h0 : m []) (hs : ∀ l a, m l → m (l ++ [a])) : ∀ l, m l := by
  intro l
  have : ∀ n (l : List α), l.length = n → m l := by
    intro n
    induction n with
    | zero => intro l h; rw [List.length_eq_zero_iff.1 h]; exact h0
    | succ n ih =>
      intro l h
      have hne : l ≠ [] := fun e => by rw [e] at h; cases h
      rw [← List.dropLast_concat_getLast hne]
      exact hs _ _ (ih _ (by rw [List.length_dropLast]; omega))
  exact this _ l rfl
theorem ord_fwd {W : List Txt} (hn : W.Nodup) : ∀ p : List Nat, (∀ i ∈ p, i < W.length) → (sN p).2 = true → wordsF (atW W p) = W.take (sN p).1 ∧ (sN p).1 ≤ W.length := by
  refine rev_ind ?_ ?_
  · intro _ _; exact ⟨by simp [atW, wordsF, sN], Nat.zero_le _⟩
  · intro p i ih hlt ho
    have hi : i < W.length := hlt i (by simp)
    rw [sN_snoc] at ho ⊢
    rw [atW_snoc]
    by_cases e1 : i = (sN p).1
    · rw [if_pos e1] at ho ⊢
      obtain ⟨h1, h2⟩ := ih (fun j hj => hlt j (by simp [hj])) ho
      rw [h1]
      refine ⟨?_, by show (sN p).1 + 1 ≤ _; omega⟩
      unfold addW
      rw [if_neg (not_takeD hn (by omega) hi), e1]
      exact (take_succD (by omega)).symm
    · rw [if_neg e1] at ho ⊢
      by_cases e2 : (sN p).1 < i
      · rw [if_pos e2] at ho; cases ho
      · rw [if_neg e2] at ho ⊢
        obtain ⟨h1, h2⟩ := ih (fun j hj => hlt j (by simp [hj])) ho
        rw [h1]
        refine ⟨?_, h2⟩
        unfold addW
        rw [if_pos (mem_takeD (by omega) hi)]
theorem ord_bwd {W : List Txt} (hn : W.Nodup) : ∀ p : List Nat, (∀ i ∈ p, i < W.length) → wordsF (atW W p) <+: W → (sN p).2 = true ∧ wordsF (atW W p) = W.take (sN p).1 ∧ (sN p).1 ≤ W.length := by
  refine rev_ind ?_ ?_
  · intro _ _; exact ⟨rfl, by simp [atW, wordsF, sN], Nat.zero_le _⟩
  · intro p i ih hlt hp
    have hi : i < W.length := hlt i (by simp)
    rw [atW_snoc] at hp
    obtain ⟨h0, h1, h2⟩ := ih (fun j hj => hlt j (by simp [hj])) ((addW_pre _ _).trans hp)
    rw [sN_snoc, atW_snoc]
    by_cases e1 : i = (sN p).1
    · rw [if_pos e1, h1]
      refine ⟨h0, ?_, by show (sN p).1 + 1 ≤ _; omega⟩
      unfold addW
      rw [if_neg (not_takeD hn (by omega) hi), e1]
      exact (take_succD (by omega)).symm
    · rw [if_neg e1]
      by_cases e2 : (sN p).1 < i
      · exfalso
        rw [h1] at hp
        unfold addW at hp
        rw [if_neg (not_takeD hn (by omega) hi)] at hp
        obtain ⟨r, hr⟩ := hp
        have hs : (sN p).1 < W.length := by omega
        have hl : (W.take (sN p).1).length = (sN p).1 := by rw [List.length_take]; omega
        have : W.getD (sN p).1 [] = W.getD i [] := by
          conv => lhs; rw [← hr]
          rw [List.append_assoc, List.getD_eq_getElem?_getD, List.getElem?_append_right (by omega), hl, Nat.sub_self]; rfl
        have := nodup_at hn hs hi this
        omega
      · rw [if_neg e2, h1]
        refine ⟨h0, ?_, h2⟩
        unfold addW
        rw [if_pos (mem_takeD (by omega) hi)]
theorem ord_iff {W : List Txt} {p : List Nat} (hlt : ∀ i ∈ p, i < W.length) : ((sN p).2 = true ∧ ¬ (sN p).1 < W.length ∧ (wordsF W).length = W.length) ↔ wordsF (atW W p) = W := by
  constructor
  · rintro ⟨h1, h2, h3⟩
    have hn : W.Nodup := by rw [← words_full.1 h3]; exact words_nodup W
    obtain ⟨h4, h5⟩ := ord_fwd hn p hlt h1
    rw [h4, List.take_of_length_le (by omega)]
  · intro h
    have hn : W.Nodup := by rw [← h]; exact words_nodup _
    obtain ⟨h1, h2, h3⟩ := ord_bwd hn p hlt (by rw [h]; exact List.prefix_refl _)
    refine ⟨h1, ?_, by rw [words_self hn]⟩
    intro h4
    have := congrArg List.length (h.symm.trans h2)
    rw [List.length_take] at this
    omega
/-! ### The program's look for like words -/
abbrev enD (q : List (Txt × Nat)) : List D := q.map fun x => .tup [.v (.string (strB x.1)), I64 (x.2 : Nat)]
def putE (q : List (Txt × Nat)) (t : Txt) (n : Nat) : List (Txt × Nat) := if t ∈ q.map Prod.fst then q.set (whM (q.map Prod.fst) t) (t, n) else q ++ [(t, n)]
theorem enD_keys (q : List (Txt × Nat)) : keysD (enD q) = (q.map Prod.fst).map fun t => Value.string (strB t) := by
  induction q with
  | nil => rfl
  | cons x q ih =>
    show Value.string (strB x.1) :: keysD (enD q) = _
    rw [ih]; rfl
theorem pu_enD (q : List (Txt × Nat)) : ∀ c ∈ enD q, Pure' c := fun c hc => by
  obtain ⟨x, _, rfl⟩ := List.mem_map.1 hc
  exact .tup _ (by simp; exact ⟨.v _, .v _⟩)
theorem putE_fst (q : List (Txt × Nat)) (t : Txt) (n : Nat) : (putE q t n).map Prod.fst = addW (q.map Prod.fst) t := by
  unfold putE addW
  by_cases h : t ∈ q.map Prod.fst
  · rw [if_pos h, if_pos h, List.map_set]
    have hw := wh_lt h
    obtain ⟨h1, h2⟩ := List.getElem?_eq_some_iff.1 hw.2
    conv => rhs; rw [← List.set_getElem_self h1]
    rw [h2]
  · rw [if_neg h, if_neg h, List.map_append]; rfl
section
variable {C : Ctx} {env : Nat → D} {H : Heap} {dst : Option Nat} {ty : TypeId} {pos : String} {after : Array Edge} {gu : Option (Nat × Bool)} {X Y Z : Operand}
theorem o_mapPut {id n : Nat} {q : List (Txt × Nat)} {t : Txt} {e : TypeId} (hx : ev env X = .omp id 0) (hy : ev env Y = S t) (hz : ev env Z = I64 (n : Nat)) (hb : H[id]? = some (some ⟨enD q, e, false, 0⟩)) : OpD Try.prog C ⟨dst, .mapUpdate 78 X Y Z, ty, pos, after, gu⟩ env H (.v undef) (H.set id (some ⟨enD (putE q t n), e, false, 0⟩)) := by
  by_cases h : t ∈ q.map Prod.fst
  · have hw := wh_lt h
    rw [List.getElem?_map] at hw
    obtain ⟨x, hx1, hx2⟩ := Option.map_eq_some_iff.1 hw.2
    have := o_mapSet (P := Try.prog) (C := C) (dst := dst) (ty := ty) (pos := pos) (after := after) (gu := gu) (whM (q.map Prod.fst) t) hx hy hz Try.underlying78 Try.underlying9 hb rfl (by show kFind _ _ (keysD (enD q)) 0 = _; rw [enD_keys]; have := find_hit 0 h; rwa [Nat.zero_add] at this) (d0 := I64 (x.2 : Nat)) (by show (enD q)[_]? = _; rw [List.getElem?_map, hx1, ← hx2]; rfl)
    have e2 : enD (putE q t n) = (enD q).set (whM (q.map Prod.fst) t) (.tup [.v (.string (strB t)), I64 (n : Nat)]) := by
      unfold putE
      rw [if_pos h]
      show List.map _ _ = (List.map _ _).set _ _
      rw [List.map_set]
    rw [e2]; exact this
  · have := o_mapNew (P := Try.prog) (C := C) (dst := dst) (ty := ty) (pos := pos) (after := after) (gu := gu) hx hy hz Try.underlying78 Try.underlying9 rfl hb rfl (by show kFind _ _ (keysD (enD q)) 0 = _; rw [enD_keys]; exact find_miss 0 h)
    have e2 : enD (putE q t n) = enD q ++ [.tup [.v (.string (strB t)), I64 (n : Nat)]] := by
      unfold putE
      rw [if_neg h]
      show List.map _ _ = List.map _ _ ++ _
      rw [List.map_append]; rfl
    rw [e2]; exact this
end
set_option maxHeartbeats 4000000 in
theorem unlike_c (W : List Txt) (hW : W.length ≤ 1099511627776) : Fun Try.prog 66 [rdS W] (· = Bo (decide ((wordsF W).length = W.length))) := by
  refine Fun.of Try.func66 rfl (Nat.le_of_ble_eq_true rfl) fun C => ?_
  refine WC.seq fun Fh1_ h1_ => ?_
  refine WC.region ?_
  refine RG.op _ _ rfl rfl (o_assign (.v _) rfl) ?_
  refine RG.nil (h1_ _ ?_)
  refine WC.seq fun Fh2_ h2_ => ?_
  refine WC.region ?_
  refine RG.op _ _ rfl rfl (o_makeMap trivial) ?_
  refine RG.op _ _ rfl rfl (o_assign (.omp _ _) rfl) ?_
  refine RG.nil (h2_ _ ?_)
  refine WC.seq fun Fh3_ h3_ => ?_
  refine WC.seq fun Fh4_ h4_ => ?_
  refine WC.region ?_
  refine RG.op _ _ rfl rfl (o_move (.rd _ _) rfl) ?_
  refine RG.op _ _ rfl rfl (o_len_rd rfl Try.underlying72) ?_
  refine RG.op _ _ rfl rfl (o_move (.v _) rfl) ?_
  refine RG.nil (h4_ _ ?_)
  refine WC.block ?_
  refine WC.loopU [4, 5, 9, 10, 11, 12, 13, 14, 15, 16, 17] (fun (p : Nat × List (Txt × Nat)) => [(9, I64 ((p.1 : Nat) : Int))]) (fun (p : Nat × List (Txt × Nat)) => [(0, some ⟨enD p.2, 78, false, 0⟩)]) (fun (p : Nat × List (Txt × Nat)) => p.1 ≤ W.length ∧ p.2.map Prod.fst = wordsF (W.take p.1)) (fun (p : Nat × List (Txt × Nat)) => W.length - p.1) (0, []) ⟨Nat.zero_le _, rfl⟩ ?lpa5_ ?lpb6_
  case lpa5_ =>
    exact .mk' ⟨⟨rfl, .v _⟩, trivial⟩ (same_refl _ _) (rfl) (by repeat (first | exact trivial | refine And.intro (Nat.le_refl _) ?_ | refine And.intro trivial ?_ | refine And.intro (by show _ ≤ _; (first | omega | (simp only [LS] <;> omega))) ?_)) (by repeat (first | exact trivial | refine And.intro (one_ok (.own _ _ _ _ _ (Nat.le_refl _))) ?_ | refine And.intro (okp (by repeat (first | exact pu_enD _ | exact pu_bytes _ | exact pu_nil | exact pu_vs rfl | exact pu_map (fun _ => .v _) _ | exact pu_vals _ | refine pu_app ?_ ?_ | refine pu_cons (by exact pu_of rfl) ?_))) ?_))
  case lpb6_ =>
    rintro p hI
    have hk1 := hI.1
    have hk2 := hI.2
    refine WC.seq fun Fh7_ h7_ => ?_
    refine WC.region ?_
    refine RG.op _ _ rfl rfl (o_ltI rfl rfl) ?_
    refine RG.nil (h7_ _ ?_)
    refine WC.seq fun Fh8_ h8_ => ?_
    refine WC.cond _ rfl (fun c3 => ?_) (fun c3 => ?_)
    ·
      have p3 := c3
      try simp only [CN] at p3
      have hkl : p.1 < W.length := by omega
      refine WC.skip (h8_ _ ?_)
      refine WC.seq fun Fh9_ h9_ => ?_
      refine WC.block ?_
      refine WC.seq fun Fh10_ h10_ => ?_
      refine WC.region ?_
      refine RG.op _ _ rfl rfl (o_move (.v _) rfl) ?_
      refine RG.op _ _ rfl rfl (o_ixn_M p.1 rfl rfl Try.underlying72 (sz_of Ty.inf9) (by first | omega | exact ubyte _ | (simp only [LS] <;> omega)) (by first | omega | exact ubyte _ | (simp only [LS] <;> omega))) ?_
      refine RG.op _ _ rfl rfl (o_load_adr rfl Try.underlying9 rfl rfl) ?_
      refine RG.op _ _ rfl rfl (o_assign (.v _) rfl) ?_
      refine RG.op _ _ rfl rfl (o_assign (.v _) rfl) ?_
      refine RG.nil (h10_ _ ?_)
      refine WC.region ?_
      refine RG.op _ _ rfl rfl (o_move (.omp _ _) rfl) ?_
      refine RG.op _ _ rfl rfl (o_move (.v _) rfl) ?_
      refine RG.op _ _ rfl rfl (o_move (.v _) rfl) ?_
      refine RG.op _ _ rfl rfl (o_mapPut (q := p.2) (t := W[p.1]'hkl) (n := p.1) rfl rfl rfl rfl) ?_
      refine RG.nil (h9_ _ ?_)
      refine WC.region ?_
      refine RG.op _ _ rfl rfl (o_add rfl rfl (by first | omega | exact ubyte _ | (simp only [LS] <;> omega)) (by first | omega | exact ubyte _ | (simp only [LS] <;> omega))) ?_
      refine RG.op _ _ rfl rfl (o_move (.v _) rfl) ?_
      refine RG.nil (Exists.intro ((p.1 + 1, putE p.2 (W[p.1]'hkl) p.1)) ⟨⟨by show p.1 + 1 ≤ _; omega, by show (putE _ _ _).map Prod.fst = wordsF (W.take (p.1 + 1)); rw [putE_fst, hk2, wordsF_take hkl]⟩, by show W.length - (p.1 + 1) < _; omega, ?_⟩)
      exact .mk' ⟨⟨rfl, .v _⟩, trivial⟩ (by repeat (first | with_reducible exact same_refl _ _ | with_reducible refine same_updO (by with_unfolding_all exact rfl) ?_ | with_reducible refine same_updN ?_ | with_reducible refine same_updL (by with_unfolding_all exact rfl) ?_ | with_reducible refine same_forget (by with_unfolding_all exact rfl) ?_)) (rfl) (by repeat (first | exact trivial | refine And.intro (Nat.le_refl _) ?_ | refine And.intro trivial ?_ | refine And.intro (by show _ ≤ _; (first | omega | (simp only [LS] <;> omega))) ?_)) (by repeat (first | exact trivial | refine And.intro (one_ok (.own _ _ _ _ _ (Nat.le_refl _))) ?_ | refine And.intro (okp (by repeat (first | exact pu_enD _ | exact pu_bytes _ | exact pu_nil | exact pu_vs rfl | exact pu_map (fun _ => .v _) _ | exact pu_vals _ | refine pu_app ?_ ?_ | refine pu_cons (by exact pu_of rfl) ?_))) ?_))
    ·
      have p3 := c3
      try simp only [CN] at p3
      refine WC.exit (h3_ _ ?_)
      refine WC.seq fun Fh11_ h11_ => ?_
      have hpl := congrArg List.length hk2
      rw [List.length_map, List.take_of_length_le (by omega)] at hpl
      refine WC.region ?_
      refine RG.op _ _ rfl rfl (o_move (.omp _ _) rfl) ?_
      refine RG.op _ _ rfl rfl ((o_len_omp rfl Try.underlying78 rfl rfl).cast (congrArg I64 (by show (((enD p.2).length : Nat) : Int) = _; rw [List.length_map, hpl]))) ?_
      refine RG.op _ _ rfl rfl (o_move (.rd _ _) rfl) ?_
      refine RG.op _ _ rfl rfl (o_len_rd rfl Try.underlying72) ?_
      refine RG.op _ _ rfl rfl (o_eqI rfl rfl) ?_
      refine RG.op _ _ rfl rfl (o_assign (.v _) rfl) ?_
      refine RG.nil (h11_ _ ?_)
      refine WC.ret ?_
      exact Ends.r1 rfl (.tmp _ (.v _) rfl) (.v _) (congrArg Bo (by rw [decide_eq_decide]; omega))
end Go.Proofs.Ytpdjcfhmdeeikaa
namespace Go.Proofs.Ytpdjcfhmdeeikaa
open Go.RowKit Go.DL

def vT (t : Txt) : Val := ⟨3, 0, t⟩
/-- Marks: which words they are. -/
def mkM (b : List UInt8) (W : List Txt) : Nat → Nat → List Nat → List Nat × Nat × Nat
  | 0, a, p => (p, a, 0)
  | m + 1, a, p => if ¬ (vget (b.drop a)).2.2 = 0 then ([], 0, (vget (b.drop a)).2.2) else if W.length ≤ (vget (b.drop a)).1 then ([], 0, 21) else mkM b W m (a + (vget (b.drop a)).2.1) (p ++ [(vget (b.drop a)).1])
section
variable {b : List UInt8} {W : List Txt} {n k a : Nat} {p : List Nat} {r : Nat × Nat × Nat}
theorem mkM_bad (h : k < n) (hr : r = vget (b.drop a)) (h1 : ¬ r.2.2 = 0) : mkM b W (n - k) a p = ([], 0, r.2.2) := by subst hr; rw [show n - k = (n - (k + 1)) + 1 by omega, mkM, if_pos h1]
theorem mkM_form (h : k < n) (hr : r = vget (b.drop a)) (h1 : r.2.2 = 0) (h2 : W.length ≤ r.1) : mkM b W (n - k) a p = ([], 0, 21) := by subst hr; rw [show n - k = (n - (k + 1)) + 1 by omega, mkM, if_neg (fun hh => hh h1), if_pos h2]
theorem mkM_step (h : k < n) (hr : r = vget (b.drop a)) (h1 : r.2.2 = 0) (h2 : ¬ W.length ≤ r.1) : mkM b W (n - k) a p = mkM b W (n - (k + 1)) (a + r.2.1) (p ++ [r.1]) := by subst hr; rw [show n - k = (n - (k + 1)) + 1 by omega, mkM, if_neg (fun hh => hh h1), if_neg h2]
theorem mkM_end (h : k = n) : mkM b W (n - k) a p = (p, a, 0) := by subst h; rw [Nat.sub_self]; rfl
end
def gmM (b : List UInt8) (W : List Txt) (n : Nat) : List Val × Nat :=
  if ¬ (mkM b W n 0 []).2.2 = 0 then ([], (mkM b W n 0 []).2.2) else if (mkM b W n 0 []).2.1 = b.length ∧ wordsF (atW W (mkM b W n 0 []).1) = W then ((atW W (mkM b W n 0 []).1).map vT, 0) else ([], 21)
theorem gmM_bad {b : List UInt8} {W : List Txt} {n e : Nat} (h : mkM b W n 0 [] = ([], 0, e)) (he : ¬ e = 0) : gmM b W n = ([], e) := by unfold gmM; rw [h, if_pos he]
theorem gmM_ok {b : List UInt8} {W : List Txt} {n a : Nat} {p : List Nat} (h : mkM b W n 0 [] = (p, a, 0)) (h1 : a = b.length) (h2 : wordsF (atW W p) = W) : gmM b W n = ((atW W p).map vT, 0) := by unfold gmM; rw [h, if_neg (fun hh => hh rfl), if_pos ⟨h1, h2⟩]
theorem gmM_no {b : List UInt8} {W : List Txt} {n a : Nat} {p : List Nat} (h : mkM b W n 0 [] = (p, a, 0)) (h1 : ¬ (a = b.length ∧ wordsF (atW W p) = W)) : gmM b W n = ([], 21) := by unfold gmM; rw [h, if_neg (fun hh => hh rfl), if_neg h1]
set_option maxRecDepth 20000 in
set_option maxHeartbeats 4000000 in
theorem gmarks_c (b : List UInt8) (n : Nat) (W : List Txt) (hb : b.length ≤ 10995116277760) (hn : n ≤ 65536) (hW : W.length ≤ 65536) : Fun Try.prog 56 [rdB b, I64 ((n : Nat) : Int), rdS W] (· = VL (gmM b W n)) := by
  refine Fun.of Try.func56 rfl (Nat.le_of_ble_eq_true rfl) fun C => ?_
  refine WC.seq fun Fh1_ h1_ => ?_
  refine WC.region ?_
  refine RG.op _ _ rfl rfl (o_assign (.v _) rfl) ?_
  refine RG.op _ _ rfl rfl (o_assign (.v _) rfl) ?_
  refine RG.nil (h1_ _ ?_)
  refine WC.seq fun Fh2_ h2_ => ?_
  refine WC.region ?_
  refine RG.op _ _ rfl rfl (o_move (.v _) rfl) ?_
  refine RG.op _ _ rfl rfl (o_makeT n n n rfl rfl Try.underlying22 Ty.inf36 rfl rfl (by omega) (by omega) (by omega) (by omega) (by omega)) ?_
  refine RG.op _ _ rfl rfl (o_assign (.own _ _ _ _ _) rfl) ?_
  refine RG.nil (h2_ _ ?_)
  refine WC.seq fun Fh3_ h3_ => ?_
  refine WC.region ?_
  refine RG.op _ _ rfl rfl (o_assign (.v _) rfl) ?_
  refine RG.op _ _ rfl rfl (o_assign (.v _) rfl) ?_
  refine RG.op _ _ rfl rfl (o_assign (.v _) rfl) ?_
  refine RG.nil (h3_ _ ?_)
  refine WC.seq fun Fh4_ h4_ => ?_
  refine WC.seq fun Fh5_ h5_ => ?_
  refine WC.region ?_
  refine RG.op _ _ rfl rfl (o_move (.own _ _ _ _ _) rfl) ?_
  refine RG.op _ _ rfl rfl (o_len_own rfl Try.underlying22) ?_
  refine RG.op _ _ rfl rfl (o_move (.v _) rfl) ?_
  refine RG.nil (h5_ _ ?_)
  refine WC.block ?_
  refine WC.loopU [6, 7, 9, 10, 11, 12, 13, 14, 15, 20, 21, 22, 23, 24, 25, 26, 27, 28, 29, 30, 31, 32, 33, 34, 35, 36, 37, 38, 39, 40, 41, 42, 43, 44, 45, 46, 47, 48, 49, 50, 51, 52, 53, 54, 55, 56, 57, 58, 59, 60] (fun (p : Nat × Nat × List Nat) => [(20, I64 ((p.1 : Nat) : Int)), (9, I64 ((p.2.1 : Nat) : Int)), (10, I64 (((sN p.2.2).1 : Nat) : Int)), (11, Bo (sN p.2.2).2)]) (fun (p : Nat × Nat × List Nat) => [(0, tb 36 n (((atW W p.2.2).map vT ++ List.replicate (n - p.1) z0).flatMap vc))]) (fun (p : Nat × Nat × List Nat) => p.1 ≤ n ∧ p.2.2.length = p.1 ∧ p.2.1 ≤ b.length ∧ mkM b W n 0 [] = mkM b W (n - p.1) p.2.1 p.2.2 ∧ (∀ i ∈ p.2.2, i < W.length) ∧ (sN p.2.2).1 ≤ p.1) (fun (p : Nat × Nat × List Nat) => n - p.1) (0, 0, []) ⟨Nat.zero_le _, rfl, Nat.zero_le _, rfl, fun i h => by simp at h, Nat.le_refl _⟩ ?lpa6_ ?lpb7_
  case lpa6_ =>
    exact .mk' ⟨⟨rfl, .v _⟩, ⟨rfl, .v _⟩, ⟨rfl, .v _⟩, ⟨rfl, .v _⟩, trivial⟩ (same_refl _ _) (congrArg (fun c => [c]) (tb_eq rfl (zs_vals rfl _))) (by repeat (first | exact trivial | refine And.intro (Nat.le_refl _) ?_ | refine And.intro trivial ?_ | refine And.intro (by show _ ≤ _; (first | omega | (simp only [LS] <;> omega))) ?_)) (by repeat (first | exact trivial | refine And.intro (one_ok (.own _ _ _ _ _ (Nat.le_refl _))) ?_ | refine And.intro (okp (by repeat (first | exact pu_bytes _ | exact pu_nil | exact pu_vs rfl | exact pu_map (fun _ => .v _) _ | exact pu_vals _ | refine pu_app ?_ ?_ | refine pu_cons (by exact pu_of rfl) ?_))) ?_))
  case lpb7_ =>
    rintro p hI
    have hk1 := hI.1
    have hk2 := hI.2.1
    have hk3 := hI.2.2.1
    have hk4 := hI.2.2.2.1
    have hk5 := hI.2.2.2.2.1
    have hk6 := hI.2.2.2.2.2
    obtain ⟨r, hr⟩ : ∃ r, r = vget (b.drop p.2.1) := ⟨_, rfl⟩
    have hv1 := vget_len5 (b.drop p.2.1)
    have hw1 := vget_lt (b.drop p.2.1)
    rw [List.length_drop, ← hr] at hv1
    rw [← hr] at hw1
    have hg1 := vgetE_c hr (by rw [List.length_drop]; omega)
    have hml : ((atW W p.2.2).map vT).length = p.1 := by rw [List.length_map, List.length_map, hk2]
    refine WC.seq fun Fh8_ h8_ => ?_
    refine WC.region ?_
    refine RG.op _ _ rfl rfl (o_ltI rfl rfl) ?_
    refine RG.nil (h8_ _ ?_)
    refine WC.seq fun Fh9_ h9_ => ?_
    refine WC.cond _ rfl (fun c4 => ?_) (fun c4 => ?_)
    ·
      have p4 := c4
      try simp only [CN] at p4
      have hlt : p.1 < n := by omega
      refine WC.skip (h9_ _ ?_)
      refine WC.seq fun Fh10_ h10_ => ?_
      refine WC.block ?_
      refine WC.seq fun Fh11_ h11_ => ?_
      refine WC.region ?_
      refine RG.op _ _ rfl rfl (o_move (.v _) rfl) ?_
      refine RG.op _ _ rfl rfl (o_assign (.v _) rfl) ?_
      refine RG.nil (h11_ _ ?_)
      refine WC.seq fun Fh12_ h12_ => ?_
      refine WC.region ?_
      refine RG.op _ _ rfl rfl (o_move (.rd _ _) rfl) ?_
      refine RG.op _ _ rfl rfl (o_move (.v _) rfl) ?_
      refine RG.op _ _ rfl rfl (o_dropM p.2.1 rfl rfl Try.underlying24 (sz_of Ty.inf5) (by first | omega | exact ubyte _ | (simp only [LS] <;> omega)) (by first | omega | exact ubyte _ | (simp only [LS] <;> omega))) ?_
      refine RG.op _ _ rfl rfl ((by exact o_call (ds := [rdB (b.drop p.2.1)]) Ty.cal55 hg1 ⟨.inl rfl, trivial⟩ (by exact pua rfl))) ?_
      refine RG.op _ _ rfl rfl (o_move (.tup _) rfl) ?_
      refine RG.op _ _ rfl rfl (o_extract rfl rfl) ?_
      refine RG.op _ _ rfl rfl (o_extract rfl rfl) ?_
      refine RG.op _ _ rfl rfl (o_extract rfl rfl) ?_
      refine RG.op _ _ rfl rfl (o_assign (.v _) rfl) ?_
      refine RG.op _ _ rfl rfl (o_assign (.v _) rfl) ?_
      refine RG.op _ _ rfl rfl (o_assign (.v _) rfl) ?_
      refine RG.nil (h12_ _ ?_)
      refine WC.seq fun Fh13_ h13_ => ?_
      refine WC.seq fun Fh14_ h14_ => ?_
      refine WC.region ?_
      refine RG.op _ _ rfl rfl (o_move (.v _) rfl) ?_
      refine RG.op _ _ rfl rfl (o_neI rfl rfl) ?_
      refine RG.nil (h14_ _ ?_)
      refine WC.cond _ rfl (fun c7 => ?_) (fun c7 => ?_)
      ·
        have p7 := c7
        try simp only [CN] at p7
        refine WC.seq fun Fh15_ h15_ => ?_
        refine WC.region ?_
        refine RG.op _ _ rfl rfl (o_move (.v _) rfl) ?_
        refine RG.op _ _ rfl rfl (o_assign (.v _) rfl) ?_
        refine RG.op _ _ rfl rfl (o_assign (.v _) rfl) ?_
        refine RG.nil (h15_ _ ?_)
        refine WC.ret ?_
        exact Ends.r2 rfl (.tmp _ (.v _) rfl) (.tmp _ (.v _) rfl) .nilr (.v _) (by rw [gmM_bad (hk4.trans (mkM_bad hlt hr (by omega))) (by omega)]; rfl)
      ·
        have p7 := c7
        try simp only [CN] at p7
        have hz1 : r.2.2 = 0 := by omega
        refine WC.skip (h13_ _ ?_)
        refine WC.seq fun Fh16_ h16_ => ?_
        refine WC.seq fun Fh17_ h17_ => ?_
        refine WC.region ?_
        refine RG.op _ _ rfl rfl (o_move (.v _) rfl) ?_
        refine RG.op _ _ rfl rfl (o_move (.rd _ _) rfl) ?_
        refine RG.op _ _ rfl rfl (o_len_rd rfl Try.underlying72) ?_
        refine RG.op _ _ rfl rfl (o_i64toU rfl Try.underlying3 Try.underlying69) ?_
        refine RG.op _ _ rfl rfl (o_geI rfl rfl) ?_
        refine RG.nil (h17_ _ ?_)
        refine WC.cond _ rfl (fun c9 => ?_) (fun c9 => ?_)
        ·
          have p9 := c9
          try simp only [CN] at p9
          refine WC.seq fun Fh18_ h18_ => ?_
          refine WC.region ?_
          refine RG.op _ _ rfl rfl (o_assign (.v _) rfl) ?_
          refine RG.op _ _ rfl rfl (o_assign (.v _) rfl) ?_
          refine RG.nil (h18_ _ ?_)
          refine WC.ret ?_
          exact Ends.r2 rfl (.tmp _ (.v _) rfl) (.tmp _ (.v _) rfl) .nilr (.v _) (by rw [gmM_bad (hk4.trans (mkM_form hlt hr hz1 (by omega))) (by decide)]; rfl)
        ·
          have p9 := c9
          try simp only [CN] at p9
          have hrW : r.1 < W.length := by omega
          have hgd : W.getD r.1 [] = W[r.1]'hrW := by rw [List.getD_eq_getElem?_getD, List.getElem?_eq_getElem hrW]; rfl
          have hsn2 : (atW W (p.2.2 ++ [r.1])).map vT = (atW W p.2.2).map vT ++ [vT (W[r.1]'hrW)] := by unfold atW; rw [List.map_append, List.map_append, ← hgd]; rfl
          have hsn := sN_snoc p.2.2 r.1
          refine WC.skip (h16_ _ ?_)
          refine WC.seq fun Fh19_ h19_ => ?_
          refine WC.region ?_
          refine RG.op _ _ rfl rfl (o_move (.v _) rfl) ?_
          refine RG.op _ _ rfl rfl (o_move (.v _) rfl) ?_
          refine RG.op _ _ rfl rfl (o_add rfl rfl (by first | omega | exact ubyte _ | (simp only [LS] <;> omega)) (by first | omega | exact ubyte _ | (simp only [LS] <;> omega))) ?_
          refine RG.op _ _ rfl rfl (o_assign (.v _) rfl) ?_
          refine RG.nil (h19_ _ ?_)
          refine WC.joinU [10, 11, 42, 43, 44, 45, 46, 47, 48, 49, 50, 51] (fun (u : Unit) => [(10, I64 (((sN (p.2.2 ++ [r.1])).1 : Nat) : Int)), (11, Bo (sN (p.2.2 ++ [r.1])).2)]) (fun (u : Unit) => []) (fun (u : Unit) => True) ?_ ?_
          ·
            refine WC.seq fun Fh20_ h20_ => ?_
            refine WC.region ?_
            refine RG.op _ _ rfl rfl (o_move (.v _) rfl) ?_
            refine RG.op _ _ rfl rfl (o_move (.v _) rfl) ?_
            refine RG.op _ _ rfl rfl (o_i64toU rfl Try.underlying3 Try.underlying69) ?_
            refine RG.op _ _ rfl rfl (o_eqI rfl rfl) ?_
            refine RG.nil (h20_ _ ?_)
            refine WC.cond _ rfl (fun c12 => ?_) (fun c12 => ?_)
            ·
              have p12 := c12
              try simp only [CN] at p12
              have hc12 : r.1 = (sN p.2.2).1 := by omega
              refine WC.region ?_
              refine RG.op _ _ rfl rfl (o_move (.v _) rfl) ?_
              refine RG.op _ _ rfl rfl (o_add rfl rfl (by first | omega | exact ubyte _ | (simp only [LS] <;> omega)) (by first | omega | exact ubyte _ | (simp only [LS] <;> omega))) ?_
              refine RG.op _ _ rfl rfl (o_assign (.v _) rfl) ?_
              refine RG.nil (Exists.intro (()) ⟨by first | omega | (simp only [LS] <;> omega), ?_⟩)
              exact .mk' ⟨⟨congrArg I64 (by rw [hsn, if_pos hc12]; rfl), .v _⟩, ⟨congrArg Bo (by rw [hsn, if_pos hc12]), .v _⟩, trivial⟩ (by repeat (first | with_reducible exact same_refl _ _ | with_reducible refine same_updO (by with_unfolding_all exact rfl) ?_ | with_reducible refine same_updN ?_ | with_reducible refine same_updL (by with_unfolding_all exact rfl) ?_ | with_reducible refine same_forget (by with_unfolding_all exact rfl) ?_)) (rfl) (by repeat (first | exact trivial | refine And.intro (Nat.le_refl _) ?_ | refine And.intro trivial ?_ | refine And.intro (by show _ ≤ _; (first | omega | (simp only [LS] <;> omega))) ?_)) (by repeat (first | exact trivial | refine And.intro (one_ok (.own _ _ _ _ _ (Nat.le_refl _))) ?_ | refine And.intro (okp (by repeat (first | exact pu_bytes _ | exact pu_nil | exact pu_vs rfl | exact pu_map (fun _ => .v _) _ | exact pu_vals _ | refine pu_app ?_ ?_ | refine pu_cons (by exact pu_of rfl) ?_))) ?_))
            ·
              have p12 := c12
              try simp only [CN] at p12
              have hc12 : ¬ r.1 = (sN p.2.2).1 := by omega
              refine WC.seq fun Fh21_ h21_ => ?_
              refine WC.region ?_
              refine RG.op _ _ rfl rfl (o_move (.v _) rfl) ?_
              refine RG.op _ _ rfl rfl (o_move (.v _) rfl) ?_
              refine RG.op _ _ rfl rfl (o_i64toU rfl Try.underlying3 Try.underlying69) ?_
              refine RG.op _ _ rfl rfl (o_gtI rfl rfl) ?_
              refine RG.nil (h21_ _ ?_)
              refine WC.cond _ rfl (fun c14 => ?_) (fun c14 => ?_)
              ·
                have p14 := c14
                try simp only [CN] at p14
                have hc14 : (sN p.2.2).1 < r.1 := by omega
                refine WC.region ?_
                refine RG.op _ _ rfl rfl (o_assign (.v _) rfl) ?_
                refine RG.nil (Exists.intro (()) ⟨by first | omega | (simp only [LS] <;> omega), ?_⟩)
                exact .mk' ⟨⟨congrArg I64 (by rw [hsn, if_neg hc12, if_pos hc14]), .v _⟩, ⟨congrArg Bo (by rw [hsn, if_neg hc12, if_pos hc14]), .v _⟩, trivial⟩ (by repeat (first | with_reducible exact same_refl _ _ | with_reducible refine same_updO (by with_unfolding_all exact rfl) ?_ | with_reducible refine same_updN ?_ | with_reducible refine same_updL (by with_unfolding_all exact rfl) ?_ | with_reducible refine same_forget (by with_unfolding_all exact rfl) ?_)) (rfl) (by repeat (first | exact trivial | refine And.intro (Nat.le_refl _) ?_ | refine And.intro trivial ?_ | refine And.intro (by show _ ≤ _; (first | omega | (simp only [LS] <;> omega))) ?_)) (by repeat (first | exact trivial | refine And.intro (one_ok (.own _ _ _ _ _ (Nat.le_refl _))) ?_ | refine And.intro (okp (by repeat (first | exact pu_bytes _ | exact pu_nil | exact pu_vs rfl | exact pu_map (fun _ => .v _) _ | exact pu_vals _ | refine pu_app ?_ ?_ | refine pu_cons (by exact pu_of rfl) ?_))) ?_))
              ·
                have p14 := c14
                try simp only [CN] at p14
                have hc14 : ¬ (sN p.2.2).1 < r.1 := by omega
                refine WC.skip (Exists.intro (()) ⟨by first | omega | (simp only [LS] <;> omega), ?_⟩)
                exact .mk' ⟨⟨congrArg I64 (by rw [hsn, if_neg hc12, if_neg hc14]), .v _⟩, ⟨congrArg Bo (by rw [hsn, if_neg hc12, if_neg hc14]), .v _⟩, trivial⟩ (by repeat (first | with_reducible exact same_refl _ _ | with_reducible refine same_updO (by with_unfolding_all exact rfl) ?_ | with_reducible refine same_updN ?_ | with_reducible refine same_updL (by with_unfolding_all exact rfl) ?_ | with_reducible refine same_forget (by with_unfolding_all exact rfl) ?_)) (rfl) (by repeat (first | exact trivial | refine And.intro (Nat.le_refl _) ?_ | refine And.intro trivial ?_ | refine And.intro (by show _ ≤ _; (first | omega | (simp only [LS] <;> omega))) ?_)) (by repeat (first | exact trivial | refine And.intro (one_ok (.own _ _ _ _ _ (Nat.le_refl _))) ?_ | refine And.intro (okp (by repeat (first | exact pu_bytes _ | exact pu_nil | exact pu_vs rfl | exact pu_map (fun _ => .v _) _ | exact pu_vals _ | refine pu_app ?_ ?_ | refine pu_cons (by exact pu_of rfl) ?_))) ?_))
          ·
            rintro u hI
            refine WC.region ?_
            refine RG.op _ _ rfl rfl (o_move (.own _ _ _ _ _) rfl) ?_
            refine RG.op _ _ rfl rfl (o_move (.v _) rfl) ?_
            refine RG.op _ _ rfl rfl (o_move (.rd _ _) rfl) ?_
            refine RG.op _ _ rfl rfl (o_move (.v _) rfl) ?_
            refine RG.op _ _ rfl rfl (o_ixn_M (r.1) rfl rfl Try.underlying72 (sz_of Ty.inf9) (by first | omega | exact ubyte _ | (simp only [LS] <;> omega)) (by first | omega | exact ubyte _ | (simp only [LS] <;> omega))) ?_
            refine RG.op _ _ rfl rfl (o_load_adr rfl Try.underlying9 rfl rfl) ?_
            refine RG.op _ _ rfl rfl (o_build (cs := [(B8 3), I64 0, (.v _)]) Try.underlying36 Ty.inf36 (Ty.pl36 Try.underlying36) rfl) ?_
            refine RG.op _ _ rfl rfl (o_ixn_own p.1 rfl rfl Try.underlying22 (sz_of Ty.inf36) (by omega) (by omega)) ?_
            refine RG.op _ _ rfl rfl (o_store (d := .agg [_, _, _]) rfl rfl rfl rfl (sz_of Ty.inf36) (by show 0 + p.1 * 3 + 3 ≤ (List.flatMap vc _).length; rw [flen, List.length_append, hml, List.length_replicate]; omega) rfl) ?_
            refine RG.nil (h10_ _ ?_)
            refine WC.region ?_
            refine RG.op _ _ rfl rfl (o_add rfl rfl (by first | omega | exact ubyte _ | (simp only [LS] <;> omega)) (by first | omega | exact ubyte _ | (simp only [LS] <;> omega))) ?_
            refine RG.op _ _ rfl rfl (o_move (.v _) rfl) ?_
            refine RG.nil (Exists.intro ((p.1 + 1, p.2.1 + r.2.1, p.2.2 ++ [r.1])) ⟨⟨by show p.1 + 1 ≤ _; omega, by simp; omega, by show p.2.1 + r.2.1 ≤ _; omega, hk4.trans (mkM_step hlt hr hz1 (by omega)), fun i hi => by rcases List.mem_append.1 hi with h | h; exact hk5 i h; (rw [List.mem_singleton] at h; omega), by show (sN (p.2.2 ++ [r.1])).1 ≤ p.1 + 1; rw [sN_snoc]; split; (show (sN p.2.2).1 + 1 ≤ _; omega); (split; (show (sN p.2.2).1 ≤ _; omega); omega)⟩, by show n - (p.1 + 1) < _; omega, ?_⟩)
            exact .mk' ⟨⟨rfl, .v _⟩, ⟨rfl, .v _⟩, ⟨rfl, .v _⟩, ⟨rfl, .v _⟩, trivial⟩ (by repeat (first | with_reducible exact same_refl _ _ | with_reducible refine same_updO (by with_unfolding_all exact rfl) ?_ | with_reducible refine same_updN ?_ | with_reducible refine same_updL (by with_unfolding_all exact rfl) ?_ | with_reducible refine same_forget (by with_unfolding_all exact rfl) ?_)) (congrArg (fun c => [c]) (tb_eq rfl (by rw [hsn2]; exact fill_val hlt hml (vT _)))) (by repeat (first | exact trivial | refine And.intro (Nat.le_refl _) ?_ | refine And.intro trivial ?_ | refine And.intro (by show _ ≤ _; (first | omega | (simp only [LS] <;> omega))) ?_)) (by repeat (first | exact trivial | refine And.intro (one_ok (.own _ _ _ _ _ (Nat.le_refl _))) ?_ | refine And.intro (okp (by repeat (first | exact pu_bytes _ | exact pu_nil | exact pu_vs rfl | exact pu_map (fun _ => .v _) _ | exact pu_vals _ | refine pu_app ?_ ?_ | refine pu_cons (by exact pu_of rfl) ?_))) ?_))
    ·
      have p4 := c4
      try simp only [CN] at p4
      have hen : p.1 = n := by omega
      refine WC.exit (h4_ _ ?_)
      refine WC.seq fun Fh22_ h22_ => ?_
      refine WC.seq fun Fh23_ h23_ => ?_
      refine WC.region ?_
      refine RG.op _ _ rfl rfl (o_move (.v _) rfl) ?_
      refine RG.op _ _ rfl rfl (o_move (.rd _ _) rfl) ?_
      refine RG.op _ _ rfl rfl (o_len_rd rfl Try.underlying24) ?_
      refine RG.op _ _ rfl rfl (o_ltI rfl rfl) ?_
      refine RG.op _ _ rfl rfl (o_move (.v _) rfl) ?_
      refine RG.opg1 _ _ _ _ _ rfl rfl rfl rfl rfl (fun hb => o_move (.v _) rfl) ?_
      refine RG.opg1 _ _ _ _ _ rfl rfl rfl rfl rfl (fun hb => o_not (gdT hb)) ?_
      refine RG.op _ _ rfl rfl (o_or _ _ rfl rfl rfl) ?_
      refine RG.op _ _ rfl rfl (o_move (.v _) rfl) ?_
      refine RG.opg1 _ _ _ _ _ rfl rfl rfl rfl rfl (fun hb => o_move (.v _) rfl) ?_
      refine RG.opg1 _ _ _ _ _ rfl rfl rfl rfl rfl (fun hb => o_move (.rd _ _) rfl) ?_
      refine RG.opg1 _ _ _ _ _ rfl rfl rfl rfl rfl (fun hb => o_len_rd (gdT hb) Try.underlying72) ?_
      refine RG.opg1 _ _ _ _ _ rfl rfl rfl rfl rfl (fun hb => o_ltI (gdT hb) (gdT hb)) ?_
      refine RG.op _ _ rfl rfl (o_or _ _ rfl rfl rfl) ?_
      refine RG.op _ _ rfl rfl (o_move (.v _) rfl) ?_
      refine RG.opg1 _ _ _ _ _ rfl rfl rfl rfl rfl (fun hb => o_move (.rd _ _) rfl) ?_
      refine RG.opg1 _ _ _ _ _ rfl rfl rfl rfl rfl (fun hb => o_call Ty.cal66 (unlike_c _ (by first | omega | exact ubyte _ | (have hb' := hb; simp only [CN] at hb'; omega) | (simp only [LS] <;> omega) | (have hb' := hb; simp only [CN] at hb'; simp only [LS]; omega))) ⟨.inl (gdT hb), trivial⟩ (by exact pua rfl)) ?_
      refine RG.opg1 _ _ _ _ _ rfl rfl rfl rfl rfl (fun hb => o_not (gdT hb)) ?_
      refine RG.op _ _ rfl rfl (o_or _ _ rfl rfl rfl) ?_
      refine RG.nil (h23_ _ ?_)
      refine WC.cond _ rfl (fun c18 => ?_) (fun c18 => ?_)
      ·
        have p18 := c18
        try simp only [CN] at p18
        refine WC.seq fun Fh24_ h24_ => ?_
        refine WC.region ?_
        refine RG.op _ _ rfl rfl (o_assign (.v _) rfl) ?_
        refine RG.op _ _ rfl rfl (o_assign (.v _) rfl) ?_
        refine RG.nil (h24_ _ ?_)
        refine WC.ret ?_
        exact Ends.r2 rfl (.tmp _ (.v _) rfl) (.tmp _ (.v _) rfl) .nilr (.v _) (by rw [gmM_no (hk4.trans (mkM_end hen)) (by rintro ⟨h1, h2⟩; obtain ⟨h3, h4, h5⟩ := (ord_iff hk5).2 h2; rcases p18 with ((h | h) | h) | h; omega; (rw [h3] at h; cases h); omega; exact h h5)]; rfl)
      ·
        have p18 := c18
        try simp only [CN] at p18
        refine WC.skip (h22_ _ ?_)
        refine WC.seq fun Fh25_ h25_ => ?_
        refine WC.region ?_
        refine RG.op _ _ rfl rfl (o_move (.own _ _ _ _ _) rfl) ?_
        refine RG.op _ _ rfl rfl (o_assign (.own _ _ _ _ _) rfl) ?_
        refine RG.op _ _ rfl rfl (o_assign (.v _) rfl) ?_
        refine RG.nil (h25_ _ ?_)
        refine WC.ret ?_
        exact Ends.r2 rfl (.tmp _ (.own _ _ _ _ _) rfl) (.tmp _ (.v _) rfl) (.tb rfl (by repeat (first | exact pu_bytes _ | exact pu_nil | exact pu_vs rfl | exact pu_map (fun _ => .v _) _ | exact pu_vals _ | refine pu_app ?_ ?_ | refine pu_cons (by exact pu_of rfl) ?_))) (.v _) (by rw [gmM_ok (hk4.trans (mkM_end hen)) (by omega) ((ord_iff hk5).1 ⟨p18.1.1.2, by omega, p18.2⟩)]; exact congrArg (fun c => D.tup [c, I64 0]) (rd_eq (by rw [hml]; omega) (by rw [hen, Nat.sub_self]; simp)))
end Go.Proofs.Ytpdjcfhmdeeikaa
namespace Go.Proofs.Ytpdjcfhmdeeikaa
open Go.RowKit Go.DL

/-- Words that bytes tell. -/
def wdM (b : List UInt8) : Nat → Nat → List Txt → List Txt × Nat × Nat
  | 0, a, w => (w, a, 0)
  | m + 1, a, w => if ¬ (vget (b.drop a)).2.2 = 0 then ([], 0, (vget (b.drop a)).2.2) else if b.length - (a + (vget (b.drop a)).2.1) < (vget (b.drop a)).1 then ([], 0, 20) else wdM b m (a + (vget (b.drop a)).2.1 + (vget (b.drop a)).1) (w ++ [(b.drop (a + (vget (b.drop a)).2.1)).take (vget (b.drop a)).1])
section
variable {b : List UInt8} {n k a : Nat} {w : List Txt} {r : Nat × Nat × Nat}
theorem wdM_bad (h : k < n) (hr : r = vget (b.drop a)) (h1 : ¬ r.2.2 = 0) : wdM b (n - k) a w = ([], 0, r.2.2) := by subst hr; rw [show n - k = (n - (k + 1)) + 1 by omega, wdM, if_pos h1]
theorem wdM_short (h : k < n) (hr : r = vget (b.drop a)) (h1 : r.2.2 = 0) (h2 : b.length - (a + r.2.1) < r.1) : wdM b (n - k) a w = ([], 0, 20) := by subst hr; rw [show n - k = (n - (k + 1)) + 1 by omega, wdM, if_neg (fun hh => hh h1), if_pos h2]
theorem wdM_step (h : k < n) (hr : r = vget (b.drop a)) (h1 : r.2.2 = 0) (h2 : ¬ b.length - (a + r.2.1) < r.1) : wdM b (n - k) a w = wdM b (n - (k + 1)) (a + r.2.1 + r.1) (w ++ [(b.drop (a + r.2.1)).take r.1]) := by subst hr; rw [show n - k = (n - (k + 1)) + 1 by omega, wdM, if_neg (fun hh => hh h1), if_neg h2]
theorem wdM_end (h : k = n) : wdM b (n - k) a w = (w, a, 0) := by subst h; rw [Nat.sub_self]; rfl
end
def getTl (b : List UInt8) (n : Nat) : List Val × Nat :=
  if ¬ (vget b).2.2 = 0 then ([], (vget b).2.2) else if n < (vget b).1 then ([], 21) else if ¬ (wdM b (vget b).1 (vget b).2.1 []).2.2 = 0 then ([], (wdM b (vget b).1 (vget b).2.1 []).2.2) else gmM (b.drop (wdM b (vget b).1 (vget b).2.1 []).2.1) (wdM b (vget b).1 (vget b).2.1 []).1 n
section
variable {b : List UInt8} {n a e : Nat} {w : List Txt} {h : Nat × Nat × Nat}
theorem getTl_bad (hh : h = vget b) (h1 : ¬ h.2.2 = 0) : getTl b n = ([], h.2.2) := by subst hh; unfold getTl; rw [if_pos h1]
theorem getTl_form (hh : h = vget b) (h1 : h.2.2 = 0) (h2 : n < h.1) : getTl b n = ([], 21) := by subst hh; unfold getTl; rw [if_neg (fun x => x h1), if_pos h2]
theorem getTl_wd (hh : h = vget b) (h1 : h.2.2 = 0) (h2 : ¬ n < h.1) (h3 : wdM b h.1 h.2.1 [] = ([], 0, e)) (he : ¬ e = 0) : getTl b n = ([], e) := by subst hh; unfold getTl; rw [if_neg (fun x => x h1), if_neg h2, h3, if_pos he]
theorem getTl_go (hh : h = vget b) (h1 : h.2.2 = 0) (h2 : ¬ n < h.1) (h3 : wdM b h.1 h.2.1 [] = (w, a, 0)) : getTl b n = gmM (b.drop a) w n := by subst hh; unfold getTl; rw [if_neg (fun x => x h1), if_neg h2, h3, if_neg (fun x => x rfl)]
end
set_option maxRecDepth 20000 in
set_option maxHeartbeats 4000000 in
theorem gtexts_c (b : List UInt8) (n : Nat) (hb : b.length ≤ 10995116277760) (hn : n ≤ 65536) : Fun Try.prog 40 [rdB b, I64 ((n : Nat) : Int)] (· = VL (getTl b n)) := by
  obtain ⟨h, hh⟩ : ∃ h, h = vget b := ⟨_, rfl⟩
  have hg0 := vgetE_c hh hb
  have hv0 := vget_len5 b
  have hw0 := vget_lt b
  rw [← hh] at hv0 hw0
  refine Fun.of Try.func40 rfl (Nat.le_of_ble_eq_true rfl) fun C => ?_
  refine WC.seq fun Fh1_ h1_ => ?_
  refine WC.region ?_
  refine RG.op _ _ rfl rfl (o_assign (.v _) rfl) ?_
  refine RG.op _ _ rfl rfl (o_assign (.v _) rfl) ?_
  refine RG.nil (h1_ _ ?_)
  refine WC.seq fun Fh2_ h2_ => ?_
  refine WC.region ?_
  refine RG.op _ _ rfl rfl (o_move (.rd _ _) rfl) ?_
  refine RG.op _ _ rfl rfl ((by exact o_call (ds := [rdB b]) Ty.cal55 hg0 ⟨.inl rfl, trivial⟩ (by exact pua rfl))) ?_
  refine RG.op _ _ rfl rfl (o_move (.tup _) rfl) ?_
  refine RG.op _ _ rfl rfl (o_extract rfl rfl) ?_
  refine RG.op _ _ rfl rfl (o_extract rfl rfl) ?_
  refine RG.op _ _ rfl rfl (o_extract rfl rfl) ?_
  refine RG.op _ _ rfl rfl (o_assign (.v _) rfl) ?_
  refine RG.op _ _ rfl rfl (o_assign (.v _) rfl) ?_
  refine RG.op _ _ rfl rfl (o_assign (.v _) rfl) ?_
  refine RG.nil (h2_ _ ?_)
  refine WC.seq fun Fh3_ h3_ => ?_
  refine WC.seq fun Fh4_ h4_ => ?_
  refine WC.region ?_
  refine RG.op _ _ rfl rfl (o_move (.v _) rfl) ?_
  refine RG.op _ _ rfl rfl (o_neI rfl rfl) ?_
  refine RG.nil (h4_ _ ?_)
  refine WC.cond _ rfl (fun c2 => ?_) (fun c2 => ?_)
  ·
    have p2 := c2
    try simp only [CN] at p2
    refine WC.seq fun Fh5_ h5_ => ?_
    refine WC.region ?_
    refine RG.op _ _ rfl rfl (o_move (.v _) rfl) ?_
    refine RG.op _ _ rfl rfl (o_assign (.v _) rfl) ?_
    refine RG.op _ _ rfl rfl (o_assign (.v _) rfl) ?_
    refine RG.nil (h5_ _ ?_)
    refine WC.ret ?_
    exact Ends.r2 rfl (.tmp _ (.v _) rfl) (.tmp _ (.v _) rfl) .nilr (.v _) (by rw [getTl_bad hh (by omega)]; rfl)
  ·
    have p2 := c2
    try simp only [CN] at p2
    have hz0 : h.2.2 = 0 := by omega
    refine WC.skip (h3_ _ ?_)
    refine WC.seq fun Fh6_ h6_ => ?_
    refine WC.seq fun Fh7_ h7_ => ?_
    refine WC.region ?_
    refine RG.op _ _ rfl rfl (o_move (.v _) rfl) ?_
    refine RG.op _ _ rfl rfl (o_move (.v _) rfl) ?_
    refine RG.op _ _ rfl rfl (o_i64toU rfl Try.underlying3 Try.underlying69) ?_
    refine RG.op _ _ rfl rfl (o_gtI rfl rfl) ?_
    refine RG.nil (h7_ _ ?_)
    refine WC.cond _ rfl (fun c4 => ?_) (fun c4 => ?_)
    ·
      have p4 := c4
      try simp only [CN] at p4
      refine WC.seq fun Fh8_ h8_ => ?_
      refine WC.region ?_
      refine RG.op _ _ rfl rfl (o_assign (.v _) rfl) ?_
      refine RG.op _ _ rfl rfl (o_assign (.v _) rfl) ?_
      refine RG.nil (h8_ _ ?_)
      refine WC.ret ?_
      exact Ends.r2 rfl (.tmp _ (.v _) rfl) (.tmp _ (.v _) rfl) .nilr (.v _) (by rw [getTl_form hh hz0 (by omega)]; rfl)
    ·
      have p4 := c4
      try simp only [CN] at p4
      have hc0 : ¬ n < h.1 := by omega
      refine WC.skip (h6_ _ ?_)
      refine WC.seq fun Fh9_ h9_ => ?_
      refine WC.region ?_
      refine RG.op _ _ rfl rfl (o_move (.v _) rfl) ?_
      refine RG.op _ _ rfl rfl (o_makeT 0 0 (h.1) rfl rfl Try.underlying72 Ty.inf9 rfl rfl (by first | omega | exact ubyte _ | (simp only [LS] <;> omega)) (by first | omega | exact ubyte _ | (simp only [LS] <;> omega)) (by first | omega | exact ubyte _ | (simp only [LS] <;> omega)) (by first | omega | exact ubyte _ | (simp only [LS] <;> omega)) (by first | omega | exact ubyte _ | (simp only [LS] <;> omega))) ?_
      refine RG.op _ _ rfl rfl (o_assign (.own _ _ _ _ _) rfl) ?_
      refine RG.nil (h9_ _ ?_)
      refine WC.seq fun Fh10_ h10_ => ?_
      refine WC.seq fun Fh11_ h11_ => ?_
      refine WC.region ?_
      refine RG.op _ _ rfl rfl (o_move (.v _) rfl) ?_
      refine RG.op _ _ rfl rfl (o_move (N64 0) rfl) ?_
      refine RG.nil (h11_ _ ?_)
      refine WC.block ?_
      refine WC.loopU [4, 5, 7, 9, 10, 11, 12, 29, 30, 31, 32, 33, 34, 35, 36, 37, 38, 39, 40, 41, 42, 43, 44, 45, 46, 47, 48, 49, 50, 51, 52, 53, 54, 55, 56, 57, 58, 59, 60, 61, 62, 63, 64, 65, 66, 67] (fun (p : Nat × Nat × List Txt) => [(29, N64 p.1), (7, I64 ((p.2.1 : Nat) : Int)), (9, ow 0 p.1 1)]) (fun (p : Nat × Nat × List Txt) => [(0, tb 9 p.1 (p.2.2.map S))]) (fun (p : Nat × Nat × List Txt) => p.1 ≤ h.1 ∧ p.2.2.length = p.1 ∧ p.2.1 ≤ b.length ∧ wdM b h.1 h.2.1 [] = wdM b (h.1 - p.1) p.2.1 p.2.2) (fun (p : Nat × Nat × List Txt) => h.1 - p.1) (0, h.2.1, []) ⟨Nat.zero_le _, rfl, hv0.1, (by show wdM b h.1 h.2.1 [] = wdM b (h.1 - 0) h.2.1 []; rw [Nat.sub_zero])⟩ ?lpa12_ ?lpb13_
      case lpa12_ =>
        exact .mk' ⟨⟨rfl, .v _⟩, ⟨rfl, .v _⟩, ⟨rfl, (by first | exact .own _ _ _ _ _ (Nat.le_refl _) | exact .ptr _ _ _ (Nat.le_refl _) | exact .omp _ _ (Nat.le_refl _))⟩, trivial⟩ (same_refl _ _) (rfl) (by repeat (first | exact trivial | refine And.intro (Nat.le_refl _) ?_ | refine And.intro trivial ?_ | refine And.intro (by show _ ≤ _; (first | omega | (simp only [LS] <;> omega))) ?_)) (by repeat (first | exact trivial | refine And.intro (one_ok (.own _ _ _ _ _ (Nat.le_refl _))) ?_ | refine And.intro (okp (by repeat (first | exact pu_bytes _ | exact pu_nil | exact pu_vs rfl | exact pu_map (fun _ => .v _) _ | exact pu_vals _ | refine pu_app ?_ ?_ | refine pu_cons (by exact pu_of rfl) ?_))) ?_))
      case lpb13_ =>
        rintro p hI
        have hk1 := hI.1
        have hk2 := hI.2.1
        have hk3 := hI.2.2.1
        have hk4 := hI.2.2.2
        have hr0 : ∃ r, r = vget (b.drop p.2.1) := Exists.intro (vget (b.drop p.2.1)) (Eq.refl _)
        obtain ⟨r, hr⟩ := hr0
        have hv1 := vget_len5 (b.drop p.2.1)
        have hw1 := vget_lt (b.drop p.2.1)
        rw [List.length_drop, ← hr] at hv1
        rw [← hr] at hw1
        have hg1 := vgetE_c hr (by rw [List.length_drop]; omega)
        refine WC.seq fun Fh14_ h14_ => ?_
        refine WC.region ?_
        refine RG.op _ _ rfl rfl (o_ltI rfl rfl) ?_
        refine RG.nil (h14_ _ ?_)
        refine WC.seq fun Fh15_ h15_ => ?_
        refine WC.cond _ rfl (fun c8 => ?_) (fun c8 => ?_)
        ·
          have p8 := c8
          try simp only [CN] at p8
          have hlt : p.1 < h.1 := by omega
          refine WC.skip (h15_ _ ?_)
          refine WC.seq fun Fh16_ h16_ => ?_
          refine WC.block ?_
          refine WC.seq fun Fh17_ h17_ => ?_
          refine WC.region ?_
          refine RG.op _ _ rfl rfl (o_move (.rd _ _) rfl) ?_
          refine RG.op _ _ rfl rfl (o_move (.v _) rfl) ?_
          refine RG.op _ _ rfl rfl (o_dropM p.2.1 rfl rfl Try.underlying24 (sz_of Ty.inf5) (by first | omega | exact ubyte _ | (simp only [LS] <;> omega)) (by first | omega | exact ubyte _ | (simp only [LS] <;> omega))) ?_
          refine RG.op _ _ rfl rfl ((by exact o_call (ds := [rdB (b.drop p.2.1)]) Ty.cal55 hg1 ⟨.inl rfl, trivial⟩ (by exact pua rfl))) ?_
          refine RG.op _ _ rfl rfl (o_move (.tup _) rfl) ?_
          refine RG.op _ _ rfl rfl (o_extract rfl rfl) ?_
          refine RG.op _ _ rfl rfl (o_extract rfl rfl) ?_
          refine RG.op _ _ rfl rfl (o_extract rfl rfl) ?_
          refine RG.op _ _ rfl rfl (o_assign (.v _) rfl) ?_
          refine RG.op _ _ rfl rfl (o_assign (.v _) rfl) ?_
          refine RG.op _ _ rfl rfl (o_assign (.v _) rfl) ?_
          refine RG.nil (h17_ _ ?_)
          refine WC.seq fun Fh18_ h18_ => ?_
          refine WC.seq fun Fh19_ h19_ => ?_
          refine WC.region ?_
          refine RG.op _ _ rfl rfl (o_move (.v _) rfl) ?_
          refine RG.op _ _ rfl rfl (o_neI rfl rfl) ?_
          refine RG.nil (h19_ _ ?_)
          refine WC.cond _ rfl (fun c10 => ?_) (fun c10 => ?_)
          ·
            have p10 := c10
            try simp only [CN] at p10
            refine WC.seq fun Fh20_ h20_ => ?_
            refine WC.region ?_
            refine RG.op _ _ rfl rfl (o_move (.v _) rfl) ?_
            refine RG.op _ _ rfl rfl (o_assign (.v _) rfl) ?_
            refine RG.op _ _ rfl rfl (o_assign (.v _) rfl) ?_
            refine RG.nil (h20_ _ ?_)
            refine WC.ret ?_
            exact Ends.r2 rfl (.tmp _ (.v _) rfl) (.tmp _ (.v _) rfl) .nilr (.v _) (by rw [getTl_wd hh hz0 hc0 (hk4.trans (wdM_bad hlt hr (by omega))) (by omega)]; rfl)
          ·
            have p10 := c10
            try simp only [CN] at p10
            have hz1 : r.2.2 = 0 := by omega
            refine WC.skip (h18_ _ ?_)
            refine WC.seq fun Fh21_ h21_ => ?_
            refine WC.region ?_
            refine RG.op _ _ rfl rfl (o_move (.v _) rfl) ?_
            refine RG.op _ _ rfl rfl (o_move (.v _) rfl) ?_
            refine RG.op _ _ rfl rfl (o_add rfl rfl (by first | omega | exact ubyte _ | (simp only [LS] <;> omega)) (by first | omega | exact ubyte _ | (simp only [LS] <;> omega))) ?_
            refine RG.op _ _ rfl rfl (o_assign (.v _) rfl) ?_
            refine RG.nil (h21_ _ ?_)
            refine WC.seq fun Fh22_ h22_ => ?_
            refine WC.seq fun Fh23_ h23_ => ?_
            refine WC.region ?_
            refine RG.op _ _ rfl rfl (o_move (.v _) rfl) ?_
            refine RG.op _ _ rfl rfl (o_move (.rd _ _) rfl) ?_
            refine RG.op _ _ rfl rfl (o_len_rd rfl Try.underlying24) ?_
            refine RG.op _ _ rfl rfl (o_move (.v _) rfl) ?_
            refine RG.op _ _ rfl rfl (o_sub rfl rfl (by first | omega | exact ubyte _ | (simp only [LS] <;> omega)) (by first | omega | exact ubyte _ | (simp only [LS] <;> omega))) ?_
            refine RG.op _ _ rfl rfl (o_i64toU rfl Try.underlying3 Try.underlying69) ?_
            refine RG.op _ _ rfl rfl (o_gtI rfl rfl) ?_
            refine RG.nil (h23_ _ ?_)
            refine WC.cond _ rfl (fun c13 => ?_) (fun c13 => ?_)
            ·
              have p13 := c13
              try simp only [CN] at p13
              refine WC.seq fun Fh24_ h24_ => ?_
              refine WC.region ?_
              refine RG.op _ _ rfl rfl (o_assign (.v _) rfl) ?_
              refine RG.op _ _ rfl rfl (o_assign (.v _) rfl) ?_
              refine RG.nil (h24_ _ ?_)
              refine WC.ret ?_
              exact Ends.r2 rfl (.tmp _ (.v _) rfl) (.tmp _ (.v _) rfl) .nilr (.v _) (by rw [getTl_wd hh hz0 hc0 (hk4.trans (wdM_short hlt hr hz1 (by omega))) (by decide)]; rfl)
            ·
              have p13 := c13
              try simp only [CN] at p13
              have hrb : r.1 ≤ b.length - (p.2.1 + r.2.1) := by omega
              have hsg : sgn r.1 = ((r.1 : Nat) : Int) := by unfold sgn; rw [if_pos (by omega)]
              refine WC.skip (h22_ _ ?_)
              refine WC.seq fun Fh25_ h25_ => ?_
              refine WC.region ?_
              refine RG.op _ _ rfl rfl (o_move (.own _ _ _ _ _) rfl) ?_
              refine RG.op _ _ rfl rfl (o_move (.rd _ _) rfl) ?_
              refine RG.op _ _ rfl rfl (o_move (.v _) rfl) ?_
              refine RG.op _ _ rfl rfl (o_move (.v _) rfl) ?_
              refine RG.op _ _ rfl rfl (o_move (.v _) rfl) ?_
              refine RG.op _ _ rfl rfl (o_UtoI64 rfl (by first | omega | exact ubyte _ | (simp only [LS] <;> omega)) Try.underlying69 Try.underlying3) ?_
              refine RG.op _ _ rfl rfl ((o_add rfl rfl (by omega) (by omega)).cast (congrArg I64 (show ((p.2.1 + r.2.1 : Nat) : Int) + sgn r.1 = ((p.2.1 + r.2.1 + r.1 : Nat) : Int) by omega))) ?_
              refine RG.op _ _ rfl rfl (o_partM (l := b) (g := fun b => U8 b.toBitVec) (p.2.1 + r.2.1) (p.2.1 + r.2.1 + r.1) rfl rfl rfl Try.underlying24 (sz_of Ty.inf5) (by omega) (by omega) (by omega) (by omega)) ?_
              refine RG.op _ _ rfl rfl (o_str_rd rfl Try.underlying24 Try.underlying5 Try.underlying9) ?_
              refine RG.op _ _ rfl rfl (o_litP (cs := [(.v _)]) Try.underlying72 Ty.inf9 rfl rfl rfl rfl (by repeat (first | exact pu_bytes _ | exact pu_nil | exact pu_vs rfl | exact pu_map (fun _ => .v _) _ | exact pu_vals _ | refine pu_app ?_ ?_ | refine pu_cons (by exact pu_of rfl) ?_))) ?_
              refine RG.op _ _ rfl rfl (o_appT (Elem.of Try.underlying72 Ty.inf9 rfl (by decide)) rfl rfl rfl (by first | omega | exact ubyte _ | (simp only [LS] <;> omega)) (by first | omega | exact ubyte _ | (simp only [LS] <;> omega)) (by repeat (first | exact bytesD_one _ | exact one_nil | exact one_map (fun _ => rfl) _ | exact one_vals _ | refine one_app ?_ ?_ | refine one_cons rfl ?_)) (by first | omega | exact ubyte _ | (simp only [LS] <;> omega)) (by first | omega | exact ubyte _ | (simp only [LS] <;> omega))) ?_
              refine RG.op _ _ rfl rfl (o_assign (.own _ _ _ _ _) rfl) ?_
              refine RG.nil (h25_ _ ?_)
              refine WC.region ?_
              refine RG.op _ _ rfl rfl (o_move (.v _) rfl) ?_
              refine RG.op _ _ rfl rfl (o_move (.v _) rfl) ?_
              refine RG.op _ _ rfl rfl (o_UtoI64 rfl (by first | omega | exact ubyte _ | (simp only [LS] <;> omega)) Try.underlying69 Try.underlying3) ?_
              refine RG.op _ _ rfl rfl ((o_add rfl rfl (by omega) (by omega)).cast (congrArg I64 (show ((p.2.1 + r.2.1 : Nat) : Int) + sgn r.1 = ((p.2.1 + r.2.1 + r.1 : Nat) : Int) by omega))) ?_
              refine RG.op _ _ rfl rfl (o_assign (.v _) rfl) ?_
              refine RG.nil (h16_ _ ?_)
              refine WC.region ?_
              refine RG.op _ _ rfl rfl (o_addU (b := 1) rfl rfl) ?_
              refine RG.op _ _ rfl rfl (o_move (.v _) rfl) ?_
              refine RG.nil (Exists.intro ((p.1 + 1, p.2.1 + r.2.1 + r.1, p.2.2 ++ [(b.drop (p.2.1 + r.2.1)).take r.1])) ⟨⟨by show p.1 + 1 ≤ _; omega, by simp; omega, by show p.2.1 + r.2.1 + r.1 ≤ _; omega, hk4.trans (wdM_step hlt hr hz1 (by omega))⟩, by show h.1 - (p.1 + 1) < _; omega, ?_⟩)
              exact .mk' ⟨⟨congrArg N64 (Nat.mod_eq_of_lt (by omega)), .v _⟩, ⟨rfl, .v _⟩, ⟨rfl, (by first | exact .own _ _ _ _ _ (Nat.le_refl _) | exact .ptr _ _ _ (Nat.le_refl _) | exact .omp _ _ (Nat.le_refl _))⟩, trivial⟩ (by repeat (first | with_reducible exact same_refl _ _ | with_reducible refine same_updO (by with_unfolding_all exact rfl) ?_ | with_reducible refine same_updN ?_ | with_reducible refine same_updL (by with_unfolding_all exact rfl) ?_ | with_reducible refine same_forget (by with_unfolding_all exact rfl) ?_)) (congrArg (fun c => [c]) (tb_eq rfl (by rw [Nat.add_sub_cancel_left]; simp))) (by repeat (first | exact trivial | refine And.intro (Nat.le_refl _) ?_ | refine And.intro trivial ?_ | refine And.intro (by show _ ≤ _; (first | omega | (simp only [LS] <;> omega))) ?_)) (by repeat (first | exact trivial | refine And.intro (one_ok (.own _ _ _ _ _ (Nat.le_refl _))) ?_ | refine And.intro (okp (by repeat (first | exact pu_bytes _ | exact pu_nil | exact pu_vs rfl | exact pu_map (fun _ => .v _) _ | exact pu_vals _ | refine pu_app ?_ ?_ | refine pu_cons (by exact pu_of rfl) ?_))) ?_))
        ·
          have p8 := c8
          try simp only [CN] at p8
          have hen : p.1 = h.1 := by omega
          refine WC.exit (h10_ _ ?_)
          refine WC.seq fun Fh26_ h26_ => ?_
          refine WC.frz 0 _ [(9, rdS p.2.2)] rfl (by repeat (first | exact pu_bytes _ | exact pu_nil | exact pu_vs rfl | exact pu_map (fun _ => .v _) _ | exact pu_vals _ | refine pu_app ?_ ?_ | refine pu_cons (by exact pu_of rfl) ?_)) ⟨.rowE rfl (by first | rfl | omega | simp) (by first | rfl | simp [bytesD]), trivial⟩ ?_
          refine WC.region ?_
          refine RG.op _ _ rfl rfl (o_move (.rd _ _) rfl) ?_
          refine RG.op _ _ rfl rfl (o_move (.v _) rfl) ?_
          refine RG.op _ _ rfl rfl (o_dropM p.2.1 rfl rfl Try.underlying24 (sz_of Ty.inf5) (by first | omega | exact ubyte _ | (simp only [LS] <;> omega)) (by first | omega | exact ubyte _ | (simp only [LS] <;> omega))) ?_
          refine RG.op _ _ rfl rfl (o_move (.v _) rfl) ?_
          refine RG.op _ _ rfl rfl (o_move (.rd _ _) rfl) ?_
          refine RG.op _ _ rfl rfl (o_call Ty.cal56 (gmarks_c (b.drop p.2.1) n p.2.2 (by rw [List.length_drop]; omega) hn (by omega)) ⟨.inl rfl, .inl rfl, .inl rfl, trivial⟩ (by exact pua rfl)) ?_
          refine RG.op _ _ rfl rfl (o_extract rfl rfl) ?_
          refine RG.op _ _ rfl rfl (o_extract rfl rfl) ?_
          refine RG.op _ _ rfl rfl (o_assign (.rd _ _) rfl) ?_
          refine RG.op _ _ rfl rfl (o_assign (.v _) rfl) ?_
          refine RG.nil (h26_ _ ?_)
          refine WC.ret ?_
          exact Ends.r2 rfl (.tmp _ (.rd _ _) rfl) (.tmp _ (.v _) rfl) (.rd _ _) (.v _) (by rw [getTl_go hh hz0 hc0 (hk4.trans (wdM_end hen))])
end Go.Proofs.Ytpdjcfhmdeeikaa
namespace Go.Proofs.Ytpdjcfhmdeeikaa
open Go.RowKit Go.DL

theorem tsM_vT (l : List Txt) : tsM (l.map vT) = l := by
  unfold tsM
  rw [List.map_map]
  exact List.map_id' l
theorem take_next {l m : List Txt} {k : Nat} (hl : k < l.length) (hm : k < m.length) (h : l.take k = m.take k) (e : l[k] = m[k]) : l.take (k + 1) = m.take (k + 1) := by
  rw [List.take_succ_eq_append_getElem hl, List.take_succ_eq_append_getElem hm, h, e]
set_option maxRecDepth 20000 in
set_option maxHeartbeats 4000000 in
theorem rread_c (b : List UInt8) (n : Nat) (hb : b.length ≤ 10995116277760) (hn : n ≤ 65536) : Fun Try.prog 50 [rdB b, I64 ((n : Nat) : Int)] (· = VL (getTl b n)) := by
  obtain ⟨h, hh⟩ : ∃ h, h = vget b := ⟨_, rfl⟩
  have hg0 := rgetE_c hh hb
  have hv0 := vget_len5 b
  have hw0 := vget_lt b
  rw [← hh] at hv0 hw0
  refine Fun.of Try.func50 rfl (Nat.le_of_ble_eq_true rfl) fun C => ?_
  refine WC.seq fun Fh1_ h1_ => ?_
  refine WC.region ?_
  refine RG.op _ _ rfl rfl (o_assign (.v _) rfl) ?_
  refine RG.op _ _ rfl rfl (o_assign (.v _) rfl) ?_
  refine RG.nil (h1_ _ ?_)
  refine WC.seq fun Fh2_ h2_ => ?_
  refine WC.region ?_
  refine RG.op _ _ rfl rfl (o_move (.rd _ _) rfl) ?_
  refine RG.op _ _ rfl rfl ((by exact o_call (ds := [rdB b]) Ty.cal57 hg0 ⟨.inl rfl, trivial⟩ (by exact pua rfl))) ?_
  refine RG.op _ _ rfl rfl (o_move (.tup _) rfl) ?_
  refine RG.op _ _ rfl rfl (o_extract rfl rfl) ?_
  refine RG.op _ _ rfl rfl (o_extract rfl rfl) ?_
  refine RG.op _ _ rfl rfl (o_extract rfl rfl) ?_
  refine RG.op _ _ rfl rfl (o_assign (.v _) rfl) ?_
  refine RG.op _ _ rfl rfl (o_assign (.v _) rfl) ?_
  refine RG.op _ _ rfl rfl (o_assign (.v _) rfl) ?_
  refine RG.nil (h2_ _ ?_)
  refine WC.seq fun Fh3_ h3_ => ?_
  refine WC.seq fun Fh4_ h4_ => ?_
  refine WC.region ?_
  refine RG.op _ _ rfl rfl (o_move (.v _) rfl) ?_
  refine RG.op _ _ rfl rfl (o_neI rfl rfl) ?_
  refine RG.nil (h4_ _ ?_)
  refine WC.cond _ rfl (fun c2 => ?_) (fun c2 => ?_)
  ·
    have p2 := c2
    try simp only [CN] at p2
    refine WC.seq fun Fh5_ h5_ => ?_
    refine WC.region ?_
    refine RG.op _ _ rfl rfl (o_move (.v _) rfl) ?_
    refine RG.op _ _ rfl rfl (o_assign (.v _) rfl) ?_
    refine RG.op _ _ rfl rfl (o_assign (.v _) rfl) ?_
    refine RG.nil (h5_ _ ?_)
    refine WC.ret ?_
    exact Ends.r2 rfl (.tmp _ (.v _) rfl) (.tmp _ (.v _) rfl) .nilr (.v _) (by rw [getTl_bad hh (by omega)]; rfl)
  ·
    have p2 := c2
    try simp only [CN] at p2
    have hz0 : h.2.2 = 0 := by omega
    refine WC.skip (h3_ _ ?_)
    refine WC.seq fun Fh6_ h6_ => ?_
    refine WC.seq fun Fh7_ h7_ => ?_
    refine WC.region ?_
    refine RG.op _ _ rfl rfl (o_move (.v _) rfl) ?_
    refine RG.op _ _ rfl rfl (o_move (.v _) rfl) ?_
    refine RG.op _ _ rfl rfl (o_i64toU rfl Try.underlying3 Try.underlying69) ?_
    refine RG.op _ _ rfl rfl (o_gtI rfl rfl) ?_
    refine RG.nil (h7_ _ ?_)
    refine WC.cond _ rfl (fun c4 => ?_) (fun c4 => ?_)
    ·
      have p4 := c4
      try simp only [CN] at p4
      refine WC.seq fun Fh8_ h8_ => ?_
      refine WC.region ?_
      refine RG.op _ _ rfl rfl (o_assign (.v _) rfl) ?_
      refine RG.op _ _ rfl rfl (o_assign (.v _) rfl) ?_
      refine RG.nil (h8_ _ ?_)
      refine WC.ret ?_
      exact Ends.r2 rfl (.tmp _ (.v _) rfl) (.tmp _ (.v _) rfl) .nilr (.v _) (by rw [getTl_form hh hz0 (by omega)]; rfl)
    ·
      have p4 := c4
      try simp only [CN] at p4
      have hc0 : ¬ n < h.1 := by omega
      refine WC.skip (h6_ _ ?_)
      refine WC.seq fun Fh9_ h9_ => ?_
      refine WC.region ?_
      refine RG.op _ _ rfl rfl (o_nil 9 1) ?_
      refine RG.nil (h9_ _ ?_)
      refine WC.seq fun Fh10_ h10_ => ?_
      refine WC.seq fun Fh11_ h11_ => ?_
      refine WC.region ?_
      refine RG.op _ _ rfl rfl (o_assign (N64 0) rfl) ?_
      refine RG.nil (h11_ _ ?_)
      refine WC.block ?_
      refine WC.loopU [4, 5, 7, 9, 10, 11, 12, 13, 34, 35, 36, 37, 38, 39, 40, 41, 42, 43, 44, 45, 46, 47, 48, 49, 50, 51, 52, 53, 54, 55, 56, 57, 58, 59, 60, 61, 62, 63, 64, 65, 66, 67, 68, 69, 70, 71, 72, 73, 74, 75, 76, 77, 78, 79] (fun (p : Nat × Nat × List Txt) => [(10, N64 p.1), (7, I64 ((p.2.1 : Nat) : Int)), (9, ow 0 p.1 1)]) (fun (p : Nat × Nat × List Txt) => [(0, tb 9 p.1 (p.2.2.map S))]) (fun (p : Nat × Nat × List Txt) => p.1 ≤ h.1 ∧ p.2.2.length = p.1 ∧ p.2.1 ≤ b.length ∧ wdM b h.1 h.2.1 [] = wdM b (h.1 - p.1) p.2.1 p.2.2) (fun (p : Nat × Nat × List Txt) => h.1 - p.1) (0, h.2.1, []) ⟨Nat.zero_le _, rfl, hv0.1, (by show wdM b h.1 h.2.1 [] = wdM b (h.1 - 0) h.2.1 []; rw [Nat.sub_zero])⟩ ?lpa12_ ?lpb13_
      case lpa12_ =>
        exact .mk' ⟨⟨rfl, .v _⟩, ⟨rfl, .v _⟩, ⟨rfl, (by first | exact .own _ _ _ _ _ (Nat.le_refl _) | exact .ptr _ _ _ (Nat.le_refl _) | exact .omp _ _ (Nat.le_refl _))⟩, trivial⟩ (same_refl _ _) (rfl) (by repeat (first | exact trivial | refine And.intro (Nat.le_refl _) ?_ | refine And.intro trivial ?_ | refine And.intro (by show _ ≤ _; (first | omega | (simp only [LS] <;> omega))) ?_)) (by repeat (first | exact trivial | refine And.intro (one_ok (.own _ _ _ _ _ (Nat.le_refl _))) ?_ | refine And.intro (okp (by repeat (first | exact pu_bytes _ | exact pu_nil | exact pu_vs rfl | exact pu_map (fun _ => .v _) _ | exact pu_vals _ | refine pu_app ?_ ?_ | refine pu_cons (by exact pu_of rfl) ?_))) ?_))
      case lpb13_ =>
        rintro p hI
        have hk1 := hI.1
        have hk2 := hI.2.1
        have hk3 := hI.2.2.1
        have hk4 := hI.2.2.2
        have hr0 : ∃ r, r = vget (b.drop p.2.1) := Exists.intro (vget (b.drop p.2.1)) (Eq.refl _)
        obtain ⟨r, hr⟩ := hr0
        have hv1 := vget_len5 (b.drop p.2.1)
        have hw1 := vget_lt (b.drop p.2.1)
        rw [List.length_drop, ← hr] at hv1
        rw [← hr] at hw1
        have hg1 := rgetE_c hr (by rw [List.length_drop]; omega)
        refine WC.seq fun Fh14_ h14_ => ?_
        refine WC.seq fun Fh15_ h15_ => ?_
        refine WC.region ?_
        refine RG.op _ _ rfl rfl (o_move (.v _) rfl) ?_
        refine RG.op _ _ rfl rfl (o_move (.v _) rfl) ?_
        refine RG.op _ _ rfl rfl (o_ltI rfl rfl) ?_
        refine RG.nil (h15_ _ ?_)
        refine WC.cond _ rfl (fun c8 => ?_) (fun c8 => ?_)
        ·
          have p8 := c8
          try simp only [CN] at p8
          have hlt : p.1 < h.1 := by omega
          refine WC.skip (h14_ _ ?_)
          refine WC.seq fun Fh16_ h16_ => ?_
          refine WC.block ?_
          refine WC.seq fun Fh17_ h17_ => ?_
          refine WC.region ?_
          refine RG.op _ _ rfl rfl (o_move (.rd _ _) rfl) ?_
          refine RG.op _ _ rfl rfl (o_move (.v _) rfl) ?_
          refine RG.op _ _ rfl rfl (o_dropM p.2.1 rfl rfl Try.underlying24 (sz_of Ty.inf5) (by first | omega | exact ubyte _ | (simp only [LS] <;> omega)) (by first | omega | exact ubyte _ | (simp only [LS] <;> omega))) ?_
          refine RG.op _ _ rfl rfl ((by exact o_call (ds := [rdB (b.drop p.2.1)]) Ty.cal57 hg1 ⟨.inl rfl, trivial⟩ (by exact pua rfl))) ?_
          refine RG.op _ _ rfl rfl (o_move (.tup _) rfl) ?_
          refine RG.op _ _ rfl rfl (o_extract rfl rfl) ?_
          refine RG.op _ _ rfl rfl (o_extract rfl rfl) ?_
          refine RG.op _ _ rfl rfl (o_extract rfl rfl) ?_
          refine RG.op _ _ rfl rfl (o_assign (.v _) rfl) ?_
          refine RG.op _ _ rfl rfl (o_assign (.v _) rfl) ?_
          refine RG.op _ _ rfl rfl (o_assign (.v _) rfl) ?_
          refine RG.nil (h17_ _ ?_)
          refine WC.seq fun Fh18_ h18_ => ?_
          refine WC.seq fun Fh19_ h19_ => ?_
          refine WC.region ?_
          refine RG.op _ _ rfl rfl (o_move (.v _) rfl) ?_
          refine RG.op _ _ rfl rfl (o_neI rfl rfl) ?_
          refine RG.nil (h19_ _ ?_)
          refine WC.cond _ rfl (fun c11 => ?_) (fun c11 => ?_)
          ·
            have p11 := c11
            try simp only [CN] at p11
            refine WC.seq fun Fh20_ h20_ => ?_
            refine WC.region ?_
            refine RG.op _ _ rfl rfl (o_move (.v _) rfl) ?_
            refine RG.op _ _ rfl rfl (o_assign (.v _) rfl) ?_
            refine RG.op _ _ rfl rfl (o_assign (.v _) rfl) ?_
            refine RG.nil (h20_ _ ?_)
            refine WC.ret ?_
            exact Ends.r2 rfl (.tmp _ (.v _) rfl) (.tmp _ (.v _) rfl) .nilr (.v _) (by rw [getTl_wd hh hz0 hc0 (hk4.trans (wdM_bad hlt hr (by omega))) (by omega)]; rfl)
          ·
            have p11 := c11
            try simp only [CN] at p11
            have hz1 : r.2.2 = 0 := by omega
            refine WC.skip (h18_ _ ?_)
            refine WC.seq fun Fh21_ h21_ => ?_
            refine WC.seq fun Fh22_ h22_ => ?_
            refine WC.region ?_
            refine RG.op _ _ rfl rfl (o_move (.v _) rfl) ?_
            refine RG.op _ _ rfl rfl (o_move (.rd _ _) rfl) ?_
            refine RG.op _ _ rfl rfl (o_len_rd rfl Try.underlying24) ?_
            refine RG.op _ _ rfl rfl (o_move (.v _) rfl) ?_
            refine RG.op _ _ rfl rfl (o_sub rfl rfl (by first | omega | exact ubyte _ | (simp only [LS] <;> omega)) (by first | omega | exact ubyte _ | (simp only [LS] <;> omega))) ?_
            refine RG.op _ _ rfl rfl (o_move (.v _) rfl) ?_
            refine RG.op _ _ rfl rfl (o_sub rfl rfl (by first | omega | exact ubyte _ | (simp only [LS] <;> omega)) (by first | omega | exact ubyte _ | (simp only [LS] <;> omega))) ?_
            refine RG.op _ _ rfl rfl (o_i64toU rfl Try.underlying3 Try.underlying69) ?_
            refine RG.op _ _ rfl rfl (o_gtI rfl rfl) ?_
            refine RG.nil (h22_ _ ?_)
            refine WC.cond _ rfl (fun c13 => ?_) (fun c13 => ?_)
            ·
              have p13 := c13
              try simp only [CN] at p13
              refine WC.seq fun Fh23_ h23_ => ?_
              refine WC.region ?_
              refine RG.op _ _ rfl rfl (o_assign (.v _) rfl) ?_
              refine RG.op _ _ rfl rfl (o_assign (.v _) rfl) ?_
              refine RG.nil (h23_ _ ?_)
              refine WC.ret ?_
              exact Ends.r2 rfl (.tmp _ (.v _) rfl) (.tmp _ (.v _) rfl) .nilr (.v _) (by rw [getTl_wd hh hz0 hc0 (hk4.trans (wdM_short hlt hr hz1 (by omega))) (by decide)]; rfl)
            ·
              have p13 := c13
              try simp only [CN] at p13
              have hrb : r.1 ≤ b.length - (p.2.1 + r.2.1) := by omega
              have hsg : sgn r.1 = ((r.1 : Nat) : Int) := by unfold sgn; rw [if_pos (by omega)]
              refine WC.skip (h21_ _ ?_)
              refine WC.seq fun Fh24_ h24_ => ?_
              refine WC.region ?_
              refine RG.op _ _ rfl rfl (o_move (.own _ _ _ _ _) rfl) ?_
              refine RG.op _ _ rfl rfl (o_move (.rd _ _) rfl) ?_
              refine RG.op _ _ rfl rfl (o_move (.v _) rfl) ?_
              refine RG.op _ _ rfl rfl (o_move (.v _) rfl) ?_
              refine RG.op _ _ rfl rfl (o_add rfl rfl (by first | omega | exact ubyte _ | (simp only [LS] <;> omega)) (by first | omega | exact ubyte _ | (simp only [LS] <;> omega))) ?_
              refine RG.op _ _ rfl rfl (o_move (.v _) rfl) ?_
              refine RG.op _ _ rfl rfl (o_move (.v _) rfl) ?_
              refine RG.op _ _ rfl rfl (o_add rfl rfl (by first | omega | exact ubyte _ | (simp only [LS] <;> omega)) (by first | omega | exact ubyte _ | (simp only [LS] <;> omega))) ?_
              refine RG.op _ _ rfl rfl (o_move (.v _) rfl) ?_
              refine RG.op _ _ rfl rfl (o_UtoI64 rfl (by first | omega | exact ubyte _ | (simp only [LS] <;> omega)) Try.underlying69 Try.underlying3) ?_
              refine RG.op _ _ rfl rfl ((o_add rfl rfl (by omega) (by omega)).cast (congrArg I64 (show ((p.2.1 + r.2.1 : Nat) : Int) + sgn r.1 = ((p.2.1 + r.2.1 + r.1 : Nat) : Int) by omega))) ?_
              refine RG.op _ _ rfl rfl (o_partM (l := b) (g := fun b => U8 b.toBitVec) (p.2.1 + r.2.1) (p.2.1 + r.2.1 + r.1) rfl rfl rfl Try.underlying24 (sz_of Ty.inf5) (by omega) (by omega) (by omega) (by omega)) ?_
              refine RG.op _ _ rfl rfl (o_str_rd rfl Try.underlying24 Try.underlying5 Try.underlying9) ?_
              refine RG.op _ _ rfl rfl (o_litP (cs := [(.v _)]) Try.underlying72 Ty.inf9 rfl rfl rfl rfl (by repeat (first | exact pu_bytes _ | exact pu_nil | exact pu_vs rfl | exact pu_map (fun _ => .v _) _ | exact pu_vals _ | refine pu_app ?_ ?_ | refine pu_cons (by exact pu_of rfl) ?_))) ?_
              refine RG.op _ _ rfl rfl (o_appT (Elem.of Try.underlying72 Ty.inf9 rfl (by decide)) rfl rfl rfl (by first | omega | exact ubyte _ | (simp only [LS] <;> omega)) (by first | omega | exact ubyte _ | (simp only [LS] <;> omega)) (by repeat (first | exact bytesD_one _ | exact one_nil | exact one_map (fun _ => rfl) _ | exact one_vals _ | refine one_app ?_ ?_ | refine one_cons rfl ?_)) (by first | omega | exact ubyte _ | (simp only [LS] <;> omega)) (by first | omega | exact ubyte _ | (simp only [LS] <;> omega))) ?_
              refine RG.op _ _ rfl rfl (o_assign (.own _ _ _ _ _) rfl) ?_
              refine RG.nil (h24_ _ ?_)
              refine WC.region ?_
              refine RG.op _ _ rfl rfl (o_move (.v _) rfl) ?_
              refine RG.op _ _ rfl rfl (o_move (.v _) rfl) ?_
              refine RG.op _ _ rfl rfl (o_add rfl rfl (by first | omega | exact ubyte _ | (simp only [LS] <;> omega)) (by first | omega | exact ubyte _ | (simp only [LS] <;> omega))) ?_
              refine RG.op _ _ rfl rfl (o_move (.v _) rfl) ?_
              refine RG.op _ _ rfl rfl (o_UtoI64 rfl (by first | omega | exact ubyte _ | (simp only [LS] <;> omega)) Try.underlying69 Try.underlying3) ?_
              refine RG.op _ _ rfl rfl ((o_add rfl rfl (by omega) (by omega)).cast (congrArg I64 (show ((p.2.1 + r.2.1 : Nat) : Int) + sgn r.1 = ((p.2.1 + r.2.1 + r.1 : Nat) : Int) by omega))) ?_
              refine RG.op _ _ rfl rfl (o_assign (.v _) rfl) ?_
              refine RG.nil (h16_ _ ?_)
              refine WC.region ?_
              refine RG.op _ _ rfl rfl (o_move (.v _) rfl) ?_
              refine RG.op _ _ rfl rfl (o_addU (b := 1) rfl rfl) ?_
              refine RG.op _ _ rfl rfl (o_assign (.v _) rfl) ?_
              refine RG.nil (Exists.intro ((p.1 + 1, p.2.1 + r.2.1 + r.1, p.2.2 ++ [(b.drop (p.2.1 + r.2.1)).take r.1])) ⟨⟨by show p.1 + 1 ≤ _; omega, by simp; omega, by show p.2.1 + r.2.1 + r.1 ≤ _; omega, hk4.trans (wdM_step hlt hr hz1 (by omega))⟩, by show h.1 - (p.1 + 1) < _; omega, ?_⟩)
              exact .mk' ⟨⟨congrArg N64 (Nat.mod_eq_of_lt (by omega)), .v _⟩, ⟨rfl, .v _⟩, ⟨rfl, (by first | exact .own _ _ _ _ _ (Nat.le_refl _) | exact .ptr _ _ _ (Nat.le_refl _) | exact .omp _ _ (Nat.le_refl _))⟩, trivial⟩ (by repeat (first | with_reducible exact same_refl _ _ | with_reducible refine same_updO (by with_unfolding_all exact rfl) ?_ | with_reducible refine same_updN ?_ | with_reducible refine same_updL (by with_unfolding_all exact rfl) ?_ | with_reducible refine same_forget (by with_unfolding_all exact rfl) ?_)) (congrArg (fun c => [c]) (tb_eq rfl (by rw [Nat.add_sub_cancel_left]; simp))) (by repeat (first | exact trivial | refine And.intro (Nat.le_refl _) ?_ | refine And.intro trivial ?_ | refine And.intro (by show _ ≤ _; (first | omega | (simp only [LS] <;> omega))) ?_)) (by repeat (first | exact trivial | refine And.intro (one_ok (.own _ _ _ _ _ (Nat.le_refl _))) ?_ | refine And.intro (okp (by repeat (first | exact pu_bytes _ | exact pu_nil | exact pu_vs rfl | exact pu_map (fun _ => .v _) _ | exact pu_vals _ | refine pu_app ?_ ?_ | refine pu_cons (by exact pu_of rfl) ?_))) ?_))
        ·
          have p8 := c8
          try simp only [CN] at p8
          have hen : p.1 = h.1 := by omega
          have hgo := getTl_go (n := n) hh hz0 hc0 (hk4.trans (wdM_end hen))
          refine WC.exit (h10_ _ ?_)
          refine WC.seq fun Fh25_ h25_ => ?_
          have hW0 : ∃ W, W = p.2.2 := Exists.intro p.2.2 (Eq.refl _)
          obtain ⟨W, hW⟩ := hW0
          have ha0 : ∃ a, a = p.2.1 := Exists.intro p.2.1 (Eq.refl _)
          obtain ⟨a, ha⟩ := ha0
          have hWl : W.length = h.1 := by rw [hW]; omega
          rw [← hW, ← ha] at hgo
          have hab : a ≤ b.length := by omega
          refine WC.frz 0 _ [(9, rdS p.2.2)] rfl (by repeat (first | exact pu_bytes _ | exact pu_nil | exact pu_vs rfl | exact pu_map (fun _ => .v _) _ | exact pu_vals _ | refine pu_app ?_ ?_ | refine pu_cons (by exact pu_of rfl) ?_)) ⟨.rowE rfl (by first | rfl | omega | simp) (by first | rfl | simp [bytesD]), trivial⟩ ?_
          refine WC.region ?_
          refine RG.op _ _ rfl rfl (o_nil 36 3) ?_
          refine RG.nil (h25_ _ ?_)
          refine WC.seq fun Fh26_ h26_ => ?_
          refine WC.seq fun Fh27_ h27_ => ?_
          refine WC.region ?_
          refine RG.op _ _ rfl rfl (o_assign (.v _) rfl) ?_
          refine RG.nil (h27_ _ ?_)
          refine WC.block ?_
          refine WC.loopU [4, 5, 7, 14, 15, 16, 17, 18, 80, 81, 82, 83, 84, 85, 86, 87, 88, 89, 90, 91, 92, 93, 94, 95, 96, 97, 98, 99, 100, 101, 102, 103, 104, 105, 106, 107, 108, 109] (fun (q : Nat × Nat × List Nat) => [(15, I64 ((q.1 : Nat) : Int)), (7, I64 (((a + q.2.1) : Nat) : Int)), (14, ow 1 q.1 3)]) (fun (q : Nat × Nat × List Nat) => [(1, tb 36 q.1 (((atW W q.2.2).map vT).flatMap vc))]) (fun (q : Nat × Nat × List Nat) => q.1 ≤ n ∧ q.2.2.length = q.1 ∧ q.2.1 ≤ (b.drop a).length ∧ mkM (b.drop a) W n 0 [] = mkM (b.drop a) W (n - q.1) q.2.1 q.2.2 ∧ (∀ i ∈ q.2.2, i < W.length)) (fun (q : Nat × Nat × List Nat) => n - q.1) (0, 0, []) ⟨Nat.zero_le _, rfl, Nat.zero_le _, rfl, fun i h => by simp at h⟩ ?lpa28_ ?lpb29_
          case lpa28_ =>
            exact .mk' ⟨⟨rfl, .v _⟩, ⟨congrArg I64 (by rw [ha]; rfl), .v _⟩, ⟨rfl, (by first | exact .own _ _ _ _ _ (Nat.le_refl _) | exact .ptr _ _ _ (Nat.le_refl _) | exact .omp _ _ (Nat.le_refl _))⟩, trivial⟩ (same_refl _ _) (rfl) (by repeat (first | exact trivial | refine And.intro (Nat.le_refl _) ?_ | refine And.intro trivial ?_ | refine And.intro (by show _ ≤ _; (first | omega | (simp only [LS] <;> omega))) ?_)) (by repeat (first | exact trivial | refine And.intro (one_ok (.own _ _ _ _ _ (Nat.le_refl _))) ?_ | refine And.intro (okp (by repeat (first | exact pu_bytes _ | exact pu_nil | exact pu_vs rfl | exact pu_map (fun _ => .v _) _ | exact pu_vals _ | refine pu_app ?_ ?_ | refine pu_cons (by exact pu_of rfl) ?_))) ?_))
          case lpb29_ =>
            rintro q hI
            have hm1 := hI.1
            have hm2 := hI.2.1
            have hm3 := hI.2.2.1
            have hm4 := hI.2.2.2.1
            have hm5 := hI.2.2.2.2
            rw [List.length_drop] at hm3
            have hs0 : ∃ s, s = vget ((b.drop a).drop q.2.1) := Exists.intro (vget ((b.drop a).drop q.2.1)) (Eq.refl _)
            obtain ⟨s, hs⟩ := hs0
            have hv1 := vget_len5 ((b.drop a).drop q.2.1)
            have hw1 := vget_lt ((b.drop a).drop q.2.1)
            rw [List.length_drop, List.length_drop, ← hs] at hv1
            rw [← hs] at hw1
            have hg1 := rgetE_c hs (by rw [List.length_drop, List.length_drop]; omega)
            rw [List.drop_drop] at hg1
            have hml : ((atW W q.2.2).map vT).length = q.1 := by rw [List.length_map, List.length_map, hm2]
            refine WC.seq fun Fh30_ h30_ => ?_
            refine WC.seq fun Fh31_ h31_ => ?_
            refine WC.region ?_
            refine RG.op _ _ rfl rfl (o_move (.v _) rfl) ?_
            refine RG.op _ _ rfl rfl (o_move (.v _) rfl) ?_
            refine RG.op _ _ rfl rfl (o_ltI rfl rfl) ?_
            refine RG.nil (h31_ _ ?_)
            refine WC.cond _ rfl (fun c19 => ?_) (fun c19 => ?_)
            ·
              have p19 := c19
              try simp only [CN] at p19
              have hlt : q.1 < n := by omega
              refine WC.skip (h30_ _ ?_)
              refine WC.seq fun Fh32_ h32_ => ?_
              refine WC.block ?_
              refine WC.seq fun Fh33_ h33_ => ?_
              refine WC.region ?_
              refine RG.op _ _ rfl rfl (o_move (.rd _ _) rfl) ?_
              refine RG.op _ _ rfl rfl (o_move (.v _) rfl) ?_
              refine RG.op _ _ rfl rfl (o_dropM (a + q.2.1) rfl rfl Try.underlying24 (sz_of Ty.inf5) (by first | omega | exact ubyte _ | (simp only [LS] <;> omega)) (by first | omega | exact ubyte _ | (simp only [LS] <;> omega))) ?_
              refine RG.op _ _ rfl rfl ((by exact o_call (ds := [rdB (b.drop (a + q.2.1))]) Ty.cal57 hg1 ⟨.inl rfl, trivial⟩ (by exact pua rfl))) ?_
              refine RG.op _ _ rfl rfl (o_move (.tup _) rfl) ?_
              refine RG.op _ _ rfl rfl (o_extract rfl rfl) ?_
              refine RG.op _ _ rfl rfl (o_extract rfl rfl) ?_
              refine RG.op _ _ rfl rfl (o_extract rfl rfl) ?_
              refine RG.op _ _ rfl rfl (o_assign (.v _) rfl) ?_
              refine RG.op _ _ rfl rfl (o_assign (.v _) rfl) ?_
              refine RG.op _ _ rfl rfl (o_assign (.v _) rfl) ?_
              refine RG.nil (h33_ _ ?_)
              refine WC.seq fun Fh34_ h34_ => ?_
              refine WC.seq fun Fh35_ h35_ => ?_
              refine WC.region ?_
              refine RG.op _ _ rfl rfl (o_move (.v _) rfl) ?_
              refine RG.op _ _ rfl rfl (o_neI rfl rfl) ?_
              refine RG.nil (h35_ _ ?_)
              refine WC.cond _ rfl (fun c22 => ?_) (fun c22 => ?_)
              ·
                have p22 := c22
                try simp only [CN] at p22
                refine WC.seq fun Fh36_ h36_ => ?_
                refine WC.region ?_
                refine RG.op _ _ rfl rfl (o_move (.v _) rfl) ?_
                refine RG.op _ _ rfl rfl (o_assign (.v _) rfl) ?_
                refine RG.op _ _ rfl rfl (o_assign (.v _) rfl) ?_
                refine RG.nil (h36_ _ ?_)
                refine WC.ret ?_
                exact Ends.r2 rfl (.tmp _ (.v _) rfl) (.tmp _ (.v _) rfl) .nilr (.v _) (by rw [hgo, gmM_bad (hm4.trans (mkM_bad hlt hs (by omega))) (by omega)]; rfl)
              ·
                have p22 := c22
                try simp only [CN] at p22
                have hz1 : s.2.2 = 0 := by omega
                refine WC.skip (h34_ _ ?_)
                refine WC.seq fun Fh37_ h37_ => ?_
                refine WC.seq fun Fh38_ h38_ => ?_
                refine WC.region ?_
                refine RG.op _ _ rfl rfl (o_move (.v _) rfl) ?_
                refine RG.op _ _ rfl rfl (o_move (.v _) rfl) ?_
                refine RG.op _ _ rfl rfl (o_geI rfl rfl) ?_
                refine RG.nil (h38_ _ ?_)
                refine WC.cond _ rfl (fun c24 => ?_) (fun c24 => ?_)
                ·
                  have p24 := c24
                  try simp only [CN] at p24
                  refine WC.seq fun Fh39_ h39_ => ?_
                  refine WC.region ?_
                  refine RG.op _ _ rfl rfl (o_assign (.v _) rfl) ?_
                  refine RG.op _ _ rfl rfl (o_assign (.v _) rfl) ?_
                  refine RG.nil (h39_ _ ?_)
                  refine WC.ret ?_
                  exact Ends.r2 rfl (.tmp _ (.v _) rfl) (.tmp _ (.v _) rfl) .nilr (.v _) (by rw [hgo, gmM_bad (hm4.trans (mkM_form hlt hs hz1 (by omega))) (by decide)]; rfl)
                ·
                  have p24 := c24
                  try simp only [CN] at p24
                  have hsW : s.1 < W.length := by omega
                  have hgd : W.getD s.1 [] = W[s.1]'hsW := by rw [List.getD_eq_getElem?_getD, List.getElem?_eq_getElem hsW]; rfl
                  have hsn2 : (atW W (q.2.2 ++ [s.1])).map vT = (atW W q.2.2).map vT ++ [vT (W[s.1]'hsW)] := by unfold atW; rw [List.map_append, List.map_append, ← hgd]; rfl
                  refine WC.skip (h37_ _ ?_)
                  refine WC.seq fun Fh40_ h40_ => ?_
                  refine WC.region ?_
                  refine RG.op _ _ rfl rfl (o_move (.v _) rfl) ?_
                  refine RG.op _ _ rfl rfl (o_move (.v _) rfl) ?_
                  refine RG.op _ _ rfl rfl (o_add rfl rfl (by first | omega | exact ubyte _ | (simp only [LS] <;> omega)) (by first | omega | exact ubyte _ | (simp only [LS] <;> omega))) ?_
                  refine RG.op _ _ rfl rfl (o_assign (.v _) rfl) ?_
                  refine RG.nil (h40_ _ ?_)
                  refine WC.region ?_
                  refine RG.op _ _ rfl rfl (o_move (.own _ _ _ _ _) rfl) ?_
                  refine RG.op _ _ rfl rfl (o_move (.rd _ _) rfl) ?_
                  refine RG.op _ _ rfl rfl (o_move (.v _) rfl) ?_
                  refine RG.op _ _ rfl rfl (o_ixn_M (s.1) rfl rfl Try.underlying72 (sz_of Ty.inf9) (by first | omega | exact ubyte _ | (simp only [LS] <;> omega)) (by first | omega | exact ubyte _ | (simp only [LS] <;> omega))) ?_
                  refine RG.op _ _ rfl rfl (o_load_adr rfl Try.underlying9 rfl rfl) ?_
                  refine RG.op _ _ rfl rfl (o_build (cs := [(B8 3), I64 0, (.v _)]) Try.underlying36 Ty.inf36 (Ty.pl36 Try.underlying36) rfl) ?_
                  refine RG.op _ _ rfl rfl (o_litP (cs := [_, _, _]) Try.underlying22 Ty.inf36 rfl rfl rfl rfl (by repeat (first | exact pu_bytes _ | exact pu_nil | exact pu_vs rfl | exact pu_map (fun _ => .v _) _ | exact pu_vals _ | refine pu_app ?_ ?_ | refine pu_cons (by exact pu_of rfl) ?_))) ?_
                  refine RG.op _ _ rfl rfl (o_appT (Elem.of Try.underlying22 Ty.inf36 rfl (by decide)) rfl rfl rfl (by first | omega | exact ubyte _ | (simp only [LS] <;> omega)) (by first | omega | exact ubyte _ | (simp only [LS] <;> omega)) (by repeat (first | exact bytesD_one _ | exact one_nil | exact one_map (fun _ => rfl) _ | exact one_vals _ | refine one_app ?_ ?_ | refine one_cons rfl ?_)) (by first | omega | exact ubyte _ | (simp only [LS] <;> omega)) (by first | omega | exact ubyte _ | (simp only [LS] <;> omega))) ?_
                  refine RG.op _ _ rfl rfl (o_assign (.own _ _ _ _ _) rfl) ?_
                  refine RG.nil (h32_ _ ?_)
                  refine WC.region ?_
                  refine RG.op _ _ rfl rfl (o_move (.v _) rfl) ?_
                  refine RG.op _ _ rfl rfl (o_add rfl rfl (by first | omega | exact ubyte _ | (simp only [LS] <;> omega)) (by first | omega | exact ubyte _ | (simp only [LS] <;> omega))) ?_
                  refine RG.op _ _ rfl rfl (o_assign (.v _) rfl) ?_
                  refine RG.nil (Exists.intro ((q.1 + 1, q.2.1 + s.2.1, q.2.2 ++ [s.1])) ⟨⟨by show q.1 + 1 ≤ _; omega, by simp; omega, by show q.2.1 + s.2.1 ≤ _; rw [List.length_drop]; omega, hm4.trans (mkM_step hlt hs hz1 (by omega)), fun i hi => by rcases List.mem_append.1 hi with h | h; exact hm5 i h; (rw [List.mem_singleton] at h; omega)⟩, by show n - (q.1 + 1) < _; omega, ?_⟩)
                  exact .mk' ⟨⟨rfl, .v _⟩, ⟨congrArg I64 (show (((a + q.2.1 + s.2.1 : Nat)) : Int) = ((a + (q.2.1 + s.2.1) : Nat) : Int) by omega), .v _⟩, ⟨rfl, (by first | exact .own _ _ _ _ _ (Nat.le_refl _) | exact .ptr _ _ _ (Nat.le_refl _) | exact .omp _ _ (Nat.le_refl _))⟩, trivial⟩ (by repeat (first | with_reducible exact same_refl _ _ | with_reducible refine same_updO (by with_unfolding_all exact rfl) ?_ | with_reducible refine same_updN ?_ | with_reducible refine same_updL (by with_unfolding_all exact rfl) ?_ | with_reducible refine same_forget (by with_unfolding_all exact rfl) ?_)) (congrArg (fun c => [none, c]) (tb_eq rfl (by rw [hsn2]; simp only [hW]; simp [vc, vT]))) (by repeat (first | exact trivial | refine And.intro (Nat.le_refl _) ?_ | refine And.intro trivial ?_ | refine And.intro (by show _ ≤ _; (first | omega | (simp only [LS] <;> omega))) ?_)) (by repeat (first | exact trivial | refine And.intro (one_ok (.own _ _ _ _ _ (Nat.le_refl _))) ?_ | refine And.intro (okp (by repeat (first | exact pu_bytes _ | exact pu_nil | exact pu_vs rfl | exact pu_map (fun _ => .v _) _ | exact pu_vals _ | refine pu_app ?_ ?_ | refine pu_cons (by exact pu_of rfl) ?_))) ?_))
            ·
              have p19 := c19
              try simp only [CN] at p19
              have hen2 : q.1 = n := by omega
              have hme := hm4.trans (mkM_end hen2)
              refine WC.exit (h26_ _ ?_)
              refine WC.seq fun Fh41_ h41_ => ?_
              have htv : tsM ((atW W q.2.2).map vT) = atW W q.2.2 := tsM_vT _
              refine WC.frz 1 _ [(14, rdV ((atW W q.2.2).map vT))] rfl (by repeat (first | exact pu_bytes _ | exact pu_nil | exact pu_vs rfl | exact pu_map (fun _ => .v _) _ | exact pu_vals _ | refine pu_app ?_ ?_ | refine pu_cons (by exact pu_of rfl) ?_)) ⟨.rowE rfl (by first | rfl | omega | simp) (by first | rfl | simp [bytesD]), trivial⟩ ?_
              refine WC.region ?_
              refine RG.op _ _ rfl rfl (o_move (.rd _ _) rfl) ?_
              refine RG.op _ _ rfl rfl (o_call Ty.cal46 (rwords_c ((atW W q.2.2).map vT) (fun v hv => by obtain ⟨t, _, rfl⟩ := List.mem_map.1 hv; rfl) (by omega)) ⟨.inl rfl, trivial⟩ (by exact pua rfl)) ?_
              refine RG.op _ _ rfl rfl (o_assign (.rd _ _) rfl) ?_
              refine RG.nil (h41_ _ ?_)
              refine WC.seq fun Fh42_ h42_ => ?_
              refine WC.seq fun Fh43_ h43_ => ?_
              refine WC.region ?_
              refine RG.op _ _ rfl rfl (o_move (.v _) rfl) ?_
              refine RG.op _ _ rfl rfl (o_move (.rd _ _) rfl) ?_
              refine RG.op _ _ rfl rfl (o_len_rd rfl Try.underlying24) ?_
              refine RG.op _ _ rfl rfl (o_neI rfl rfl) ?_
              refine RG.op _ _ rfl rfl (o_move (.v _) rfl) ?_
              refine RG.opg1 _ _ _ _ _ rfl rfl rfl rfl rfl (fun hb => o_move (.rd _ _) rfl) ?_
              refine RG.opg1 _ _ _ _ _ rfl rfl rfl rfl rfl (fun hb => o_len_rd (gdT hb) Try.underlying72) ?_
              refine RG.opg1 _ _ _ _ _ rfl rfl rfl rfl rfl (fun hb => o_move (.rd _ _) rfl) ?_
              refine RG.opg1 _ _ _ _ _ rfl rfl rfl rfl rfl (fun hb => o_len_rd (gdT hb) Try.underlying72) ?_
              refine RG.opg1 _ _ _ _ _ rfl rfl rfl rfl rfl (fun hb => o_neI (gdT hb) (gdT hb)) ?_
              refine RG.op _ _ rfl rfl (o_or _ _ rfl rfl rfl) ?_
              refine RG.nil (h43_ _ ?_)
              refine WC.cond _ rfl (fun c29 => ?_) (fun c29 => ?_)
              ·
                have p29 := c29
                try simp only [CN] at p29
                refine WC.seq fun Fh44_ h44_ => ?_
                refine WC.region ?_
                refine RG.op _ _ rfl rfl (o_assign (.v _) rfl) ?_
                refine RG.op _ _ rfl rfl (o_assign (.v _) rfl) ?_
                refine RG.nil (h44_ _ ?_)
                refine WC.ret ?_
                exact Ends.r2 rfl (.tmp _ (.v _) rfl) (.tmp _ (.v _) rfl) .nilr (.v _) (by rw [hgo, gmM_no hme (by rintro ⟨h1, h2⟩; rw [List.length_drop] at h1; rw [htv, h2, ← hW] at p29; rcases p29 with h3 | h3; omega; exact h3 rfl)]; rfl)
              ·
                have p29 := c29
                try simp only [CN] at p29
                have hFl : (wordsF (tsM ((atW W q.2.2).map vT))).length = p.2.2.length := by omega
                refine WC.skip (h42_ _ ?_)
                refine WC.seq fun Fh45_ h45_ => ?_
                refine WC.seq fun Fh46_ h46_ => ?_
                refine WC.region ?_
                refine RG.op _ _ rfl rfl (o_assign (.v _) rfl) ?_
                refine RG.nil (h46_ _ ?_)
                refine WC.block ?_
                refine WC.loopU [4, 5, 20, 123, 124, 125, 126, 127, 128, 129, 130, 131, 132, 133, 134, 135, 136, 137] (fun (k : Nat) => [(20, I64 ((k : Nat) : Int))]) (fun (k : Nat) => []) (fun (k : Nat) => k ≤ p.2.2.length ∧ (wordsF (tsM ((atW W q.2.2).map vT))).take k = p.2.2.take k) (fun (k : Nat) => p.2.2.length - k) 0 ⟨Nat.zero_le _, rfl⟩ ?lpa47_ ?lpb48_
                case lpa47_ =>
                  exact .mk' ⟨⟨rfl, .v _⟩, trivial⟩ (same_refl _ _) (rfl) (by repeat (first | exact trivial | refine And.intro (Nat.le_refl _) ?_ | refine And.intro trivial ?_ | refine And.intro (by show _ ≤ _; (first | omega | (simp only [LS] <;> omega))) ?_)) (by repeat (first | exact trivial | refine And.intro (one_ok (.own _ _ _ _ _ (Nat.le_refl _))) ?_ | refine And.intro (okp (by repeat (first | exact pu_bytes _ | exact pu_nil | exact pu_vs rfl | exact pu_map (fun _ => .v _) _ | exact pu_vals _ | refine pu_app ?_ ?_ | refine pu_cons (by exact pu_of rfl) ?_))) ?_))
                case lpb48_ =>
                  rintro k hI
                  have hq1 := hI.1
                  have hq2 := hI.2
                  refine WC.seq fun Fh49_ h49_ => ?_
                  refine WC.seq fun Fh50_ h50_ => ?_
                  refine WC.region ?_
                  refine RG.op _ _ rfl rfl (o_move (.v _) rfl) ?_
                  refine RG.op _ _ rfl rfl (o_move (.rd _ _) rfl) ?_
                  refine RG.op _ _ rfl rfl (o_len_rd rfl Try.underlying72) ?_
                  refine RG.op _ _ rfl rfl (o_ltI rfl rfl) ?_
                  refine RG.nil (h50_ _ ?_)
                  refine WC.cond _ rfl (fun c32 => ?_) (fun c32 => ?_)
                  ·
                    have p32 := c32
                    try simp only [CN] at p32
                    have hkp : k < p.2.2.length := by omega
                    refine WC.skip (h49_ _ ?_)
                    refine WC.seq fun Fh51_ h51_ => ?_
                    refine WC.block ?_
                    refine WC.seq fun Fh52_ h52_ => ?_
                    refine WC.drawn1 (by kernel_rfl) ?_
                    refine PG.op _ rfl rfl rfl (by rintro _ rfl; exact o_move (.rd _ _) rfl) ?_
                    refine PG.op _ rfl rfl rfl (by rintro _ rfl; exact o_move (.v _) rfl) ?_
                    refine PG.op _ rfl rfl rfl (by rintro _ rfl; exact o_ixn_M k rfl rfl Try.underlying72 (sz_of Ty.inf9) (by first | omega | exact ubyte _ | (simp only [LS] <;> omega)) (by first | omega | exact ubyte _ | (simp only [LS] <;> omega))) ?_
                    refine PG.op _ rfl rfl rfl (by rintro _ rfl; exact o_load_adr rfl Try.underlying9 rfl rfl) ?_
                    refine PG.op _ rfl rfl rfl (by rintro _ rfl; exact o_move (.rd _ _) rfl) ?_
                    refine PG.op _ rfl rfl rfl (by rintro _ rfl; exact o_move (.v _) rfl) ?_
                    refine PG.op _ rfl rfl rfl (by rintro _ rfl; exact o_ixn_M k rfl rfl Try.underlying72 (sz_of Ty.inf9) (by first | omega | exact ubyte _ | (simp only [LS] <;> omega)) (by first | omega | exact ubyte _ | (simp only [LS] <;> omega))) ?_
                    refine PG.op _ rfl rfl rfl (by rintro _ rfl; exact o_load_adr rfl Try.underlying9 rfl rfl) ?_
                    refine PG.op _ rfl rfl rfl (by rintro _ rfl; exact o_neS' rfl rfl) ?_
                    refine PG.nil ⟨by kernel_rfl, rfl, (h52_ _ ?_)⟩
                    refine WC.cond _ rfl (fun c34 => ?_) (fun c34 => ?_)
                    ·
                      have p34 := c34
                      try simp only [CN] at p34
                      refine WC.seq fun Fh53_ h53_ => ?_
                      refine WC.region ?_
                      refine RG.op _ _ rfl rfl (o_assign (.v _) rfl) ?_
                      refine RG.op _ _ rfl rfl (o_assign (.v _) rfl) ?_
                      refine RG.nil (h53_ _ ?_)
                      refine WC.ret ?_
                      exact Ends.r2 rfl (.tmp _ (.v _) rfl) (.tmp _ (.v _) rfl) .nilr (.v _) (by rw [hgo, gmM_no hme (by rintro ⟨h1, h2⟩; refine p34 ?_; have e : wordsF (tsM ((atW W q.2.2).map vT)) = p.2.2 := (htv ▸ h2).trans hW; simp only [e])]; rfl)
                    ·
                      have p34 := c34
                      try simp only [CN] at p34
                      refine WC.skip (h51_ _ ?_)
                      refine WC.region ?_
                      refine RG.op _ _ rfl rfl (o_move (.v _) rfl) ?_
                      refine RG.op _ _ rfl rfl (o_add rfl rfl (by first | omega | exact ubyte _ | (simp only [LS] <;> omega)) (by first | omega | exact ubyte _ | (simp only [LS] <;> omega))) ?_
                      refine RG.op _ _ rfl rfl (o_assign (.v _) rfl) ?_
                      refine RG.nil (Exists.intro (k + 1) ⟨⟨by omega, take_next (by omega) hkp hq2 p34⟩, by first | omega | (simp only [LS] <;> omega), ?_⟩)
                      exact .mk' ⟨⟨rfl, .v _⟩, trivial⟩ (by repeat (first | with_reducible exact same_refl _ _ | with_reducible refine same_updO (by with_unfolding_all exact rfl) ?_ | with_reducible refine same_updN ?_ | with_reducible refine same_updL (by with_unfolding_all exact rfl) ?_ | with_reducible refine same_forget (by with_unfolding_all exact rfl) ?_)) (rfl) (by repeat (first | exact trivial | refine And.intro (Nat.le_refl _) ?_ | refine And.intro trivial ?_ | refine And.intro (by show _ ≤ _; (first | omega | (simp only [LS] <;> omega))) ?_)) (by repeat (first | exact trivial | refine And.intro (one_ok (.own _ _ _ _ _ (Nat.le_refl _))) ?_ | refine And.intro (okp (by repeat (first | exact pu_bytes _ | exact pu_nil | exact pu_vs rfl | exact pu_map (fun _ => .v _) _ | exact pu_vals _ | refine pu_app ?_ ?_ | refine pu_cons (by exact pu_of rfl) ?_))) ?_))
                  ·
                    have p32 := c32
                    try simp only [CN] at p32
                    refine WC.exit (h45_ _ ?_)
                    refine WC.seq fun Fh54_ h54_ => ?_
                    refine WC.region ?_
                    refine RG.op _ _ rfl rfl (o_move (.rd _ _) rfl) ?_
                    refine RG.op _ _ rfl rfl (o_assign (.rd _ _) rfl) ?_
                    refine RG.op _ _ rfl rfl (o_assign (.v _) rfl) ?_
                    refine RG.nil (h54_ _ ?_)
                    refine WC.ret ?_
                    exact Ends.r2 rfl (.tmp _ (.rd _ _) rfl) (.tmp _ (.v _) rfl) (.rd _ _) (.v _) (by rw [hgo, gmM_ok hme (by rw [List.length_drop]; omega) (by have e : k = p.2.2.length := (by omega); rw [e, List.take_length, List.take_of_length_le (by omega), htv, ← hW] at hq2; exact hq2)]; exact congrArg (fun c => D.tup [c, I64 0]) (rd_eq rfl rfl))
end Go.Proofs.Ytpdjcfhmdeeikaa
