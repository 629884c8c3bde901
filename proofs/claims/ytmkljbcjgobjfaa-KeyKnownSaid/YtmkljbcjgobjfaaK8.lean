/-
  Layer key: the program's table of readers, and Parse. No condition.
-/
import Derived.Test.YtmkljbcjgobjfaaK7
set_option linter.unusedSimpArgs false
set_option linter.unusedVariables false
namespace Go.Proofs.Ytmkljbcjgobjfaa
open Go.RowKit Go.DL

theorem text_bound : ∀ (w : List UInt8) (s : List UInt8) (n : Nat), textM w = .ok (s, n) → n ≤ w.length ∧ s.length ≤ n
  | [], s, n, h => by rw [text_0] at h; cases h
  | [c], s, n, h => by rw [text_1] at h; cases h
  | c :: d :: r, s, n, h => by
    rw [text_2] at h
    split at h
    · cases h2 : textM (d :: r) with
      | error e => rw [h2] at h; cases h
      | ok p =>
        rw [h2] at h
        cases h
        have := text_bound (d :: r) p.1 p.2 h2
        simp only [List.length_cons] at *; omega
    · split at h
      · cases h2 : textM r with
        | error e => rw [h2] at h; cases h
        | ok p =>
          rw [h2] at h
          cases h
          have := text_bound r p.1 p.2 h2
          simp only [List.length_cons] at *; omega
      · split at h
        · cases h; simp only [List.length_cons, List.length_nil]; omega
        · cases h
theorem text_err : ∀ (w : List UInt8) (e : Int), textM w = .error e → e = 20 ∨ e = 21
  | [], e, h => by rw [text_0] at h; cases h; exact .inl rfl
  | [c], e, h => by rw [text_1] at h; cases h; exact .inl rfl
  | c :: d :: r, e, h => by
    rw [text_2] at h
    split at h
    · cases h2 : textM (d :: r) with
      | error e' => rw [h2] at h; cases h; exact text_err _ _ h2
      | ok p => rw [h2] at h; cases h
    · split at h
      · cases h2 : textM r with
        | error e' => rw [h2] at h; cases h; exact text_err _ _ h2
        | ok p => rw [h2] at h; cases h
      · split at h
        · cases h
        · cases h; exact .inr rfl

def fnD (n : Nat) : D := .v (.func (.func n) #[] #[])
def rks : List Value := [.int .u8 1, .int .u8 2, .int .u8 3, .int .u8 4]
def rcs : List D := [fnD 63, fnD 64, fnD 65, fnD 66]
set_option maxHeartbeats 4000000 in
theorem rdrs_c : Fun Try.prog 51 [] (· = .mp rks rcs) := by
  refine Fun.of Try.func51 rfl (Nat.le_of_ble_eq_true rfl) fun C => ?_
  refine WC.seq fun Fh1_ h1_ => ?_
  refine WC.region ?_
  refine RG.op _ _ rfl rfl (o_assign (.v _) rfl) ?_
  refine RG.nil (h1_ _ ?_)
  refine WC.seq fun Fh2_ h2_ => ?_
  refine WC.region ?_
  refine RG.op _ _ rfl rfl (o_makeMap trivial) ?_
  refine RG.op _ _ rfl rfl (o_insert (d := (.v _)) rfl rfl rfl Try.underlying68 Try.underlying5 rfl rfl rfl rfl) ?_
  refine RG.op _ _ rfl rfl (o_insert (d := (.v _)) rfl rfl rfl Try.underlying68 Try.underlying5 rfl rfl rfl rfl) ?_
  refine RG.op _ _ rfl rfl (o_insert (d := (.v _)) rfl rfl rfl Try.underlying68 Try.underlying5 rfl rfl rfl rfl) ?_
  refine RG.op _ _ rfl rfl (o_insert (d := (.v _)) rfl rfl rfl Try.underlying68 Try.underlying5 rfl rfl rfl rfl) ?_
  refine RG.op _ _ rfl rfl (o_move (.omp _ _) rfl) ?_
  refine RG.op _ _ rfl rfl (o_assign (.omp _ _) rfl) ?_
  refine RG.nil (h2_ _ ?_)
  refine WC.ret ?_
  exact Ends.r1 rfl (.tmp _ (.omp _ _) rfl) (Frz.map rks rcs rfl rfl rfl rfl (pu_vs rfl)) (rfl)
def lookF (c : UInt8) : D := if c = 1 then fnD 63 else if c = 2 then fnD 64 else if c = 3 then fnD 65 else if c = 4 then fnD 66 else .v .nilFunc
def lookB (c : UInt8) : Bool := decide (c = 1) || (decide (c = 2) || (decide (c = 3) || decide (c = 4)))
section
variable {C : Ctx} {env : Nat → D} {H : Heap} {dst : Option Nat} {ty : TypeId} {pos : String} {after : Array Edge} {gu : Option (Nat × Bool)} {X Y : Operand}
theorem look_c {c : UInt8} (hx : ev env X = .mp rks rcs) (hy : ev env Y = B8 c) : OpD Try.prog C ⟨dst, .lookup 68 X Y true, ty, pos, after, gu⟩ env H (.tup [lookF c, Bo (lookB c)]) H := by
  by_cases h1 : c = 1
  · subst h1; exact o_lookup_hit 0 hx hy Try.underlying68 Try.underlying5 rfl rfl rfl
  by_cases h2 : c = 2
  · subst h2; exact o_lookup_hit 1 hx hy Try.underlying68 Try.underlying5 rfl rfl rfl
  by_cases h3 : c = 3
  · subst h3; exact o_lookup_hit 2 hx hy Try.underlying68 Try.underlying5 rfl rfl rfl
  by_cases h4 : c = 4
  · subst h4; exact o_lookup_hit 3 hx hy Try.underlying68 Try.underlying5 rfl rfl rfl
  have e : ∀ n : UInt8, c ≠ n → ¬ (c.toNat : Int) = n.toNat := fun n hn he => hn (UInt8.toNat_inj.1 (Int.ofNat_inj.1 he))
  have hm := o_lookup_miss (P := Try.prog) (C := C) (env := env) (H := H) (dst := dst) (ty := ty) (pos := pos) (after := after) (gu := gu) (ok := true) (zv := .nilFunc) (et := 71) hx hy Try.underlying68 Try.underlying5 rfl rfl (by
    have a1 : ((c.toNat : Int) == 1) = false := beq_false_of_ne (e 1 h1)
    have a2 : ((c.toNat : Int) == 2) = false := beq_false_of_ne (e 2 h2)
    have a3 : ((c.toNat : Int) == 3) = false := beq_false_of_ne (e 3 h3)
    have a4 : ((c.toNat : Int) == 4) = false := beq_false_of_ne (e 4 h4)
    simp only [kFind, rks, Instr.sameNow, a1, a2, a3, a4, if_true])
  rw [show lookF c = .v .nilFunc by simp [lookF, h1, h2, h3, h4], show lookB c = false by simp [lookB, h1, h2, h3, h4]]
  exact hm
def oneC (c : UInt8) (b : List UInt8) : Except Int (Val × Nat) := if c = 1 then nullM else if c = 2 then boolM b else if c = 3 then intM b else textR b
theorem rdr_c {c : UInt8} {b : List UInt8} {os : List Operand} {ats : Array TypeId} (hx : ev env X = lookF c) (hc : lookB c = true) (h0 : 0 < b.length) (hb : b.length ≤ 1099511627776) (he : ArgsAre env os [rdB b]) :
    OpD Try.prog C ⟨dst, .call { callee := .value X, args := os.toArray, argTypes := ats }, ty, pos, after, gu⟩ env H (rr (oneC c b)) H := by
  have hp : PureAll ([rdB b] ++ []) := ⟨.rd _ _, trivial⟩
  by_cases h1 : c = 1
  · subst h1; exact o_callV (cs := []) (.inr ⟨hx, rfl⟩) Ty.cal63 (rNull_c b) he hp
  by_cases h2 : c = 2
  · subst h2; exact o_callV (cs := []) (.inr ⟨hx, rfl⟩) Ty.cal64 (rBool_c b hb) he hp
  by_cases h3 : c = 3
  · subst h3; exact o_callV (cs := []) (.inr ⟨hx, rfl⟩) Ty.cal65 (rInt_c b hb) he hp
  by_cases h4 : c = 4
  · subst h4; exact o_callV (cs := []) (.inr ⟨hx, rfl⟩) Ty.cal66 (rText_c b h0 hb) he hp
  simp [lookB, h1, h2, h3, h4] at hc
end
/-- The value at the front, and how many bytes it has. -/
def oneP (b : List UInt8) : Except Int (Val × Nat) := if lookB (b.getD 0 0) = true then oneC (b.getD 0 0) b else .error 21
theorem oneC_bound {c : UInt8} {b : List UInt8} {v : Val} {n : Nat} (h0 : 0 < b.length) (h : oneC c b = .ok (v, n)) : 1 ≤ n ∧ n ≤ b.length := by
  unfold oneC nullM boolM intM textR at h
  split at h
  · cases h; omega
  split at h
  · split at h
    · cases h
    · split at h
      · cases h
      · cases h; omega
  split at h
  · split at h
    · cases h
    · cases h; omega
  · cases h2 : textM (b.drop 1) with
    | error e => rw [h2] at h; cases h
    | ok p =>
      rw [h2] at h
      cases h
      have := text_bound _ _ _ h2
      simp only [List.length_drop] at this; omega
theorem oneC_err {c : UInt8} {b : List UInt8} {e : Int} (h : oneC c b = .error e) : e = 20 ∨ e = 21 := by
  unfold oneC nullM boolM intM textR at h
  split at h
  · cases h
  split at h
  · split at h
    · cases h; exact .inl rfl
    · split at h
      · cases h; exact .inr rfl
      · cases h
  split at h
  · split at h
    · cases h; exact .inl rfl
    · cases h
  · cases h2 : textM (b.drop 1) with
    | error e => rw [h2] at h; cases h; exact text_err _ _ h2
    | ok p => rw [h2] at h; cases h
theorem oneC_ok {c : UInt8} {b : List UInt8} (h : reE (oneC c b) = 0) : oneC c b = .ok (rvE (oneC c b), rnE (oneC c b)) := by
  cases h2 : oneC c b with
  | error e => have := oneC_err h2; rw [h2] at h; have h : e = 0 := h; omega
  | ok p => rfl
theorem oneC_no {c : UInt8} {b : List UInt8} (h : reE (oneC c b) ≠ 0) : oneC c b = .error (reE (oneC c b)) := by
  cases h2 : oneC c b with
  | error e => rfl
  | ok p => rw [h2] at h; exact absurd rfl h
theorem oneC_max {c : UInt8} {b : List UInt8} (h0 : 0 < b.length) : rnE (oneC c b) ≤ b.length := by
  cases h2 : oneC c b with
  | error e => exact Nat.zero_le _
  | ok p => exact (oneC_bound (v := p.1) h0 h2).2
def parseM (b : List UInt8) : Except Int (List Val) := if b.length = 0 then .ok [] else
  match oneP b with
  | .error e => .error e
  | .ok (v, n) => (parseM (b.drop (max n 1))).map (v :: ·)
termination_by b.length
decreasing_by simp only [List.length_drop]; omega
def addL (l : List Val) : Except Int (List Val) → Except Int (List Val) := Except.map (l ++ ·)
theorem addL_addL (l m : List Val) (e : Except Int (List Val)) : addL l (addL m e) = addL (l ++ m) e := by cases e <;> simp [addL, Except.map]
theorem parse_nil {b : List UInt8} (h : b.length = 0) : parseM b = .ok [] := by rw [parseM, if_pos h]
theorem parse_ok {b : List UInt8} {v : Val} {n : Nat} (h0 : 0 < b.length) (h : oneP b = .ok (v, n)) (hn : 1 ≤ n) : parseM b = addL [v] (parseM (b.drop n)) := by
  rw [parseM, if_neg (by omega), h]
  show (parseM (b.drop (max n 1))).map _ = _
  rw [Nat.max_eq_left hn]; rfl
theorem parse_err {b : List UInt8} {e : Int} (h0 : 0 < b.length) (h : oneP b = .error e) : parseM b = .error e := by
  rw [parseM, if_neg (by omega), h]
theorem getD_drop {b : List UInt8} {i : Nat} (j : Nat) (h : i + j < b.length) : (b.drop i).getD j 0 = b[i + j] := by
  simp [List.getD, h]
def pL : Except Int (List Val) → List Val
  | .ok l => l
  | .error _ => []
def pE : Except Int (List Val) → Int
  | .ok _ => 0
  | .error e => e
def rp (e : Except Int (List Val)) : D := .tup [rdV (pL e), I64 (pE e)]
theorem flat_snoc (l : List Val) (v : Val) : l.flatMap vc ++ [B8 v.k, I64 v.i, S v.t] = (l ++ [v]).flatMap vc := by simp [vc]
theorem one_yes {b : List UInt8} {i : Nat} (h : i < b.length) (hk : lookB b[i] = true) : oneP (b.drop i) = oneC b[i] (b.drop i) := by
  unfold oneP
  rw [getD_drop 0 h]
  exact if_pos hk
theorem one_not {b : List UInt8} {i : Nat} (h : i < b.length) (hk : lookB b[i] = false) : oneP (b.drop i) = .error 21 := by
  unfold oneP
  rw [getD_drop 0 h]
  exact if_neg (by simp [hk])
set_option maxHeartbeats 4000000 in
theorem parse_c (b : List UInt8) (hb : b.length ≤ 1099511627776) : Fun Try.prog 20 [rdB b] (· = rp (parseM b)) := by
  refine Fun.of Try.func20 rfl (Nat.le_of_ble_eq_true rfl) fun C => ?_
  refine WC.seq fun Fh1_ h1_ => ?_
  refine WC.region ?_
  refine RG.op _ _ rfl rfl (o_assign (.v _) rfl) ?_
  refine RG.op _ _ rfl rfl (o_assign (.v _) rfl) ?_
  refine RG.nil (h1_ _ ?_)
  refine WC.seq fun Fh2_ h2_ => ?_
  refine WC.region ?_
  refine RG.op _ _ rfl rfl (o_call Ty.cal51 (rdrs_c) trivial (by repeat (first | exact trivial | refine And.intro (by first | exact .v _ | exact .rd _ _ | exact .adr _ | exact .mp _ _ | exact .agg _ (by repeat (first | exact pu_bytes _ | exact pu_nil | exact pu_vs rfl | exact pu_map (fun _ => .v _) _ | exact pu_vals _ | refine pu_app ?_ ?_ | refine pu_cons (by first | exact .v _ | exact .rd _ _ | exact .adr _ | exact .mp _ _ | exact .agg _ (pu_vs rfl)) ?_)) | exact .tup _ (by repeat (first | exact pu_bytes _ | exact pu_nil | exact pu_vs rfl | exact pu_map (fun _ => .v _) _ | exact pu_vals _ | refine pu_app ?_ ?_ | refine pu_cons (by first | exact .v _ | exact .rd _ _ | exact .adr _ | exact .mp _ _ | exact .agg _ (pu_vs rfl)) ?_)) | exact .fn _ _ (by repeat (first | exact pu_bytes _ | exact pu_nil | exact pu_vs rfl | exact pu_map (fun _ => .v _) _ | exact pu_vals _ | refine pu_app ?_ ?_ | refine pu_cons (by first | exact .v _ | exact .rd _ _ | exact .adr _ | exact .mp _ _ | exact .agg _ (pu_vs rfl)) ?_)) | exact .iface _ _ (.v _) | exact .iface _ _ (.agg _ (by repeat (first | exact pu_bytes _ | exact pu_nil | exact pu_vs rfl | exact pu_map (fun _ => .v _) _ | exact pu_vals _ | refine pu_app ?_ ?_ | refine pu_cons (by first | exact .v _ | exact .rd _ _ | exact .adr _ | exact .mp _ _ | exact .agg _ (pu_vs rfl)) ?_)))) ?_))) ?_
  refine RG.op _ _ rfl rfl (o_assign (.mp _ _) rfl) ?_
  refine RG.nil (h2_ _ ?_)
  refine WC.seq fun Fh3_ h3_ => ?_
  refine WC.region ?_
  refine RG.op _ _ rfl rfl (o_nil 41 3) ?_
  refine RG.nil (h3_ _ ?_)
  refine WC.seq fun Fh4_ h4_ => ?_
  refine WC.seq fun Fh5_ h5_ => ?_
  refine WC.region ?_
  refine RG.op _ _ rfl rfl (o_assign (.v _) rfl) ?_
  refine RG.nil (h5_ _ ?_)
  refine WC.block ?_
  refine WC.loopU [2, 3, 5, 6, 7, 8, 9, 10, 11, 13, 14, 15, 16, 17, 18, 19, 20, 21, 22, 23, 24, 25, 26, 27, 28, 29, 30, 31, 32, 33, 34, 35, 36, 37, 38, 39, 40, 41, 42, 43, 44, 45, 46] (fun (p : List Val × Nat) => [(6, I64 ((p.2 : Nat) : Int)), (5, ow 0 p.1.length 3)]) (fun (p : List Val × Nat) => [(0, tb 41 p.1.length (p.1.flatMap vc))]) (fun (p : List Val × Nat) => p.2 ≤ b.length ∧ p.1.length ≤ p.2 ∧ parseM b = addL p.1 (parseM (b.drop p.2))) (fun (p : List Val × Nat) => b.length - p.2) ([], 0) ⟨Nat.zero_le _, Nat.zero_le _, by rw [List.drop_zero]; cases parseM b <;> rfl⟩ ?lpa6_ ?lpb7_
  case lpa6_ =>
    exact .mk' ⟨⟨rfl, .v _⟩, ⟨ow_eq (by simp), (by first | exact .own _ _ _ _ _ (Nat.le_refl _) | exact .ptr _ _ _ (Nat.le_refl _) | exact .omp _ _ (Nat.le_refl _))⟩, trivial⟩ (same_refl _ _) (rfl) (by repeat (first | exact trivial | refine And.intro (Nat.le_refl _) ?_ | refine And.intro trivial ?_ | refine And.intro (by show _ ≤ _; (first | omega | (simp only [bytesD_len, zeros_len, flatMap_len vc_len, List.length_append, List.length_take, List.length_drop, List.length_map, List.length_nil, List.length_cons, List.length_replicate, List.length_reverse, List.length_set, List.length_range, strB_size] <;> omega))) ?_)) (by repeat (first | exact trivial | refine And.intro (okp (by repeat (first | exact pu_bytes _ | exact pu_nil | exact pu_vs rfl | exact pu_map (fun _ => .v _) _ | exact pu_vals _ | refine pu_app ?_ ?_ | refine pu_cons (by first | exact .v _ | exact .rd _ _ | exact .adr _ | exact .mp _ _ | exact .agg _ (by repeat (first | exact pu_bytes _ | exact pu_nil | exact pu_vs rfl | exact pu_map (fun _ => .v _) _ | exact pu_vals _ | refine pu_app ?_ ?_ | refine pu_cons (by first | exact .v _ | exact .rd _ _ | exact .adr _ | exact .mp _ _ | exact .agg _ (pu_vs rfl)) ?_)) | exact .tup _ (by repeat (first | exact pu_bytes _ | exact pu_nil | exact pu_vs rfl | exact pu_map (fun _ => .v _) _ | exact pu_vals _ | refine pu_app ?_ ?_ | refine pu_cons (by first | exact .v _ | exact .rd _ _ | exact .adr _ | exact .mp _ _ | exact .agg _ (pu_vs rfl)) ?_)) | exact .fn _ _ (by repeat (first | exact pu_bytes _ | exact pu_nil | exact pu_vs rfl | exact pu_map (fun _ => .v _) _ | exact pu_vals _ | refine pu_app ?_ ?_ | refine pu_cons (by first | exact .v _ | exact .rd _ _ | exact .adr _ | exact .mp _ _ | exact .agg _ (pu_vs rfl)) ?_)) | exact .iface _ _ (.v _) | exact .iface _ _ (.agg _ (by repeat (first | exact pu_bytes _ | exact pu_nil | exact pu_vs rfl | exact pu_map (fun _ => .v _) _ | exact pu_vals _ | refine pu_app ?_ ?_ | refine pu_cons (by first | exact .v _ | exact .rd _ _ | exact .adr _ | exact .mp _ _ | exact .agg _ (pu_vs rfl)) ?_)))) ?_))) ?_))
  case lpb7_ =>
    rintro p hI
    obtain ⟨hp1, hp2, hp3⟩ := id hI
    refine WC.seq fun Fh8_ h8_ => ?_
    refine WC.seq fun Fh9_ h9_ => ?_
    refine WC.region ?_
    refine RG.op _ _ rfl rfl (o_move (.v _) rfl) ?_
    refine RG.op _ _ rfl rfl (o_move (.rd _ _) rfl) ?_
    refine RG.op _ _ rfl rfl (o_len_rd rfl Try.underlying22) ?_
    refine RG.op _ _ rfl rfl (o_ltI rfl rfl) ?_
    refine RG.nil (h9_ _ ?_)
    refine WC.cond _ rfl (fun c4 => ?_) (fun c4 => ?_)
    ·
      have p4 := c4
      try simp only [decide_eq_true_eq, decide_eq_false_iff_not, Bool.and_eq_true, Bool.or_eq_true, Bool.not_eq_true', Bool.not_eq_false', Bool.and_eq_false_iff, Bool.or_eq_false_iff, beq_iff_eq, bne_iff_ne, beq_eq_false_iff_ne, bne_eq_false_iff_eq, Int.not_lt, Int.not_le, ne_eq, Decidable.not_not] at p4
      have hlt : p.2 < b.length := by omega
      have h0 : 0 < (b.drop p.2).length := by rw [List.length_drop]; omega
      have hbl : (b.drop p.2).length ≤ 1099511627776 := by rw [List.length_drop]; omega
      refine WC.skip (h8_ _ ?_)
      refine WC.block ?_
      refine WC.seq fun Fh10_ h10_ => ?_
      refine WC.region ?_
      refine RG.op _ _ rfl rfl (o_move (.mp _ _) rfl) ?_
      refine RG.op _ _ rfl rfl (o_move (.rd _ _) rfl) ?_
      refine RG.op _ _ rfl rfl (o_move (.v _) rfl) ?_
      refine RG.op _ _ rfl rfl (o_ixn_M p.2 rfl rfl Try.underlying22 (sz_of Ty.inf5) (by first | omega | exact ubyte _ | (simp only [bytesD_len, zeros_len, flatMap_len vc_len, List.length_append, List.length_take, List.length_drop, List.length_map, List.length_nil, List.length_cons, List.length_replicate, List.length_reverse, List.length_set, List.length_range, strB_size] <;> omega)) (by first | omega | exact ubyte _ | (simp only [bytesD_len, zeros_len, flatMap_len vc_len, List.length_append, List.length_take, List.length_drop, List.length_map, List.length_nil, List.length_cons, List.length_replicate, List.length_reverse, List.length_set, List.length_range, strB_size] <;> omega))) ?_
      refine RG.op _ _ rfl rfl (o_load_adr rfl Try.underlying5 rfl rfl) ?_
      refine RG.op _ _ rfl rfl (look_c rfl rfl) ?_
      refine RG.op _ _ rfl rfl (o_move (.tup _) rfl) ?_
      refine RG.op _ _ rfl rfl (o_extract rfl rfl) ?_
      refine RG.op _ _ rfl rfl (o_extract rfl rfl) ?_
      refine RG.op _ _ rfl rfl (o_assign _ rfl) ?_
      refine RG.op _ _ rfl rfl (o_assign (.v _) rfl) ?_
      refine RG.nil (h10_ _ ?_)
      refine WC.seq fun Fh11_ h11_ => ?_
      refine WC.seq fun Fh12_ h12_ => ?_
      refine WC.region ?_
      refine RG.op _ _ rfl rfl (o_move (.v _) rfl) ?_
      refine RG.op _ _ rfl rfl (o_not rfl) ?_
      refine RG.nil (h12_ _ ?_)
      refine WC.cond _ rfl (fun c6 => ?_) (fun c6 => ?_)
      ·
        have p6 := c6
        try simp only [decide_eq_true_eq, decide_eq_false_iff_not, Bool.and_eq_true, Bool.or_eq_true, Bool.not_eq_true', Bool.not_eq_false', Bool.and_eq_false_iff, Bool.or_eq_false_iff, beq_iff_eq, bne_iff_ne, beq_eq_false_iff_ne, bne_eq_false_iff_eq, Int.not_lt, Int.not_le, ne_eq, Decidable.not_not] at p6
        refine WC.seq fun Fh13_ h13_ => ?_
        refine WC.region ?_
        refine RG.op _ _ rfl rfl (o_assign (.v _) rfl) ?_
        refine RG.op _ _ rfl rfl (o_assign (.v _) rfl) ?_
        refine RG.nil (h13_ _ ?_)
        refine WC.ret ?_
        exact Ends.r2 rfl (.tmp _ (.v _) rfl) (.tmp _ (.v _) rfl) .nilr (.v _) (by rw [hp3, parse_err h0 (one_not hlt p6)]; rfl)
      ·
        have p6 := c6
        try simp only [decide_eq_true_eq, decide_eq_false_iff_not, Bool.and_eq_true, Bool.or_eq_true, Bool.not_eq_true', Bool.not_eq_false', Bool.and_eq_false_iff, Bool.or_eq_false_iff, beq_iff_eq, bne_iff_ne, beq_eq_false_iff_ne, bne_eq_false_iff_eq, Int.not_lt, Int.not_le, ne_eq, Decidable.not_not] at p6
        refine WC.skip (h11_ _ ?_)
        refine WC.seq fun Fh14_ h14_ => ?_
        refine WC.region ?_
        refine RG.op _ _ rfl rfl (o_move _ rfl) ?_
        refine RG.op _ _ rfl rfl (o_move (.rd _ _) rfl) ?_
        refine RG.op _ _ rfl rfl (o_move (.v _) rfl) ?_
        refine RG.op _ _ rfl rfl (o_dropM p.2 rfl rfl Try.underlying22 (sz_of Ty.inf5) (by first | omega | exact ubyte _ | (simp only [bytesD_len, zeros_len, flatMap_len vc_len, List.length_append, List.length_take, List.length_drop, List.length_map, List.length_nil, List.length_cons, List.length_replicate, List.length_reverse, List.length_set, List.length_range, strB_size] <;> omega)) (by first | omega | exact ubyte _ | (simp only [bytesD_len, zeros_len, flatMap_len vc_len, List.length_append, List.length_take, List.length_drop, List.length_map, List.length_nil, List.length_cons, List.length_replicate, List.length_reverse, List.length_set, List.length_range, strB_size] <;> omega))) ?_
        refine RG.op _ _ rfl rfl (rdr_c (c := b[p.2]'hlt) (b := b.drop p.2) rfl p6 h0 hbl ⟨.inl rfl, trivial⟩) ?_
        refine RG.op _ _ rfl rfl (o_move (.tup _) rfl) ?_
        refine RG.op _ _ rfl rfl (o_extract rfl rfl) ?_
        refine RG.op _ _ rfl rfl (o_extract rfl rfl) ?_
        refine RG.op _ _ rfl rfl (o_extract rfl rfl) ?_
        refine RG.op _ _ rfl rfl (o_alloc (z_of Ty.inf41) rfl) ?_
        refine RG.op _ _ rfl rfl (o_store (d := (.agg [_, _, _])) rfl rfl rfl rfl (sz_of Ty.inf41) (Nat.le_of_ble_eq_true rfl) rfl) ?_
        refine RG.op _ _ rfl rfl (o_assign (.v _) rfl) ?_
        refine RG.op _ _ rfl rfl (o_assign (.v _) rfl) ?_
        refine RG.nil (h14_ _ ?_)
        refine WC.seq fun Fh15_ h15_ => ?_
        refine WC.seq fun Fh16_ h16_ => ?_
        refine WC.region ?_
        refine RG.op _ _ rfl rfl (o_move (.v _) rfl) ?_
        refine RG.op _ _ rfl rfl (o_neI rfl rfl) ?_
        refine RG.nil (h16_ _ ?_)
        refine WC.cond _ rfl (fun c9 => ?_) (fun c9 => ?_)
        ·
          have p9 := c9
          try simp only [decide_eq_true_eq, decide_eq_false_iff_not, Bool.and_eq_true, Bool.or_eq_true, Bool.not_eq_true', Bool.not_eq_false', Bool.and_eq_false_iff, Bool.or_eq_false_iff, beq_iff_eq, bne_iff_ne, beq_eq_false_iff_ne, bne_eq_false_iff_eq, Int.not_lt, Int.not_le, ne_eq, Decidable.not_not] at p9
          refine WC.seq fun Fh17_ h17_ => ?_
          refine WC.region ?_
          refine RG.op _ _ rfl rfl (o_move (.v _) rfl) ?_
          refine RG.op _ _ rfl rfl (o_assign (.v _) rfl) ?_
          refine RG.op _ _ rfl rfl (o_assign (.v _) rfl) ?_
          refine RG.nil (h17_ _ ?_)
          refine WC.ret ?_
          exact Ends.r2 rfl (.tmp _ (.v _) rfl) (.tmp _ (.v _) rfl) .nilr (.v _) (by rw [hp3, parse_err h0 (by rw [one_yes hlt p6]; exact oneC_no p9)]; rfl)
        ·
          have p9 := c9
          try simp only [decide_eq_true_eq, decide_eq_false_iff_not, Bool.and_eq_true, Bool.or_eq_true, Bool.not_eq_true', Bool.not_eq_false', Bool.and_eq_false_iff, Bool.or_eq_false_iff, beq_iff_eq, bne_iff_ne, beq_eq_false_iff_ne, bne_eq_false_iff_eq, Int.not_lt, Int.not_le, ne_eq, Decidable.not_not] at p9
          have h1 := oneC_ok p9
          have h2 := oneC_bound h0 h1
          rw [List.length_drop] at h2
          refine WC.skip (h15_ _ ?_)
          refine WC.seq fun Fh18_ h18_ => ?_
          refine WC.region ?_
          refine RG.op _ _ rfl rfl (o_move (.own _ _ _ _ _) rfl) ?_
          refine RG.op _ _ rfl rfl (o_load_ptr_L (xs := [_, _, _]) rfl Try.underlying41 rfl (sz_of Ty.inf41) rfl rfl rfl rfl) ?_
          refine RG.op _ _ rfl rfl (o_litP (cs := [_, _, _]) Try.underlying23 Ty.inf41 rfl rfl rfl rfl (by repeat (first | exact pu_bytes _ | exact pu_nil | exact pu_vs rfl | exact pu_map (fun _ => .v _) _ | exact pu_vals _ | refine pu_app ?_ ?_ | refine pu_cons (by first | exact .v _ | exact .rd _ _ | exact .adr _ | exact .mp _ _ | exact .agg _ (by repeat (first | exact pu_bytes _ | exact pu_nil | exact pu_vs rfl | exact pu_map (fun _ => .v _) _ | exact pu_vals _ | refine pu_app ?_ ?_ | refine pu_cons (by first | exact .v _ | exact .rd _ _ | exact .adr _ | exact .mp _ _ | exact .agg _ (pu_vs rfl)) ?_)) | exact .tup _ (by repeat (first | exact pu_bytes _ | exact pu_nil | exact pu_vs rfl | exact pu_map (fun _ => .v _) _ | exact pu_vals _ | refine pu_app ?_ ?_ | refine pu_cons (by first | exact .v _ | exact .rd _ _ | exact .adr _ | exact .mp _ _ | exact .agg _ (pu_vs rfl)) ?_)) | exact .fn _ _ (by repeat (first | exact pu_bytes _ | exact pu_nil | exact pu_vs rfl | exact pu_map (fun _ => .v _) _ | exact pu_vals _ | refine pu_app ?_ ?_ | refine pu_cons (by first | exact .v _ | exact .rd _ _ | exact .adr _ | exact .mp _ _ | exact .agg _ (pu_vs rfl)) ?_)) | exact .iface _ _ (.v _) | exact .iface _ _ (.agg _ (by repeat (first | exact pu_bytes _ | exact pu_nil | exact pu_vs rfl | exact pu_map (fun _ => .v _) _ | exact pu_vals _ | refine pu_app ?_ ?_ | refine pu_cons (by first | exact .v _ | exact .rd _ _ | exact .adr _ | exact .mp _ _ | exact .agg _ (pu_vs rfl)) ?_)))) ?_))) ?_
          refine RG.op _ _ rfl rfl (o_appT (Elem.of Try.underlying23 Ty.inf41 rfl (by decide)) rfl rfl rfl (by first | omega | exact ubyte _ | (simp only [bytesD_len, zeros_len, flatMap_len vc_len, List.length_append, List.length_take, List.length_drop, List.length_map, List.length_nil, List.length_cons, List.length_replicate, List.length_reverse, List.length_set, List.length_range, strB_size] <;> omega)) (by first | omega | exact ubyte _ | (simp only [bytesD_len, zeros_len, flatMap_len vc_len, List.length_append, List.length_take, List.length_drop, List.length_map, List.length_nil, List.length_cons, List.length_replicate, List.length_reverse, List.length_set, List.length_range, strB_size] <;> omega)) (by repeat (first | exact bytesD_one _ | exact one_nil | exact one_map (fun _ => rfl) _ | exact one_vals _ | refine one_app ?_ ?_ | refine one_cons rfl ?_)) (by first | omega | exact ubyte _ | (simp only [bytesD_len, zeros_len, flatMap_len vc_len, List.length_append, List.length_take, List.length_drop, List.length_map, List.length_nil, List.length_cons, List.length_replicate, List.length_reverse, List.length_set, List.length_range, strB_size] <;> omega)) (by first | omega | exact ubyte _ | (simp only [bytesD_len, zeros_len, flatMap_len vc_len, List.length_append, List.length_take, List.length_drop, List.length_map, List.length_nil, List.length_cons, List.length_replicate, List.length_reverse, List.length_set, List.length_range, strB_size] <;> omega))) ?_
          refine RG.op _ _ rfl rfl (o_assign (.own _ _ _ _ _) rfl) ?_
          refine RG.nil (h18_ _ ?_)
          refine WC.region ?_
          refine RG.op _ _ rfl rfl (o_move (.v _) rfl) ?_
          refine RG.op _ _ rfl rfl (o_move (.v _) rfl) ?_
          refine RG.op _ _ rfl rfl (o_add rfl rfl (by first | omega | exact ubyte _ | (simp only [bytesD_len, zeros_len, flatMap_len vc_len, List.length_append, List.length_take, List.length_drop, List.length_map, List.length_nil, List.length_cons, List.length_replicate, List.length_reverse, List.length_set, List.length_range, strB_size] <;> omega)) (by first | omega | exact ubyte _ | (simp only [bytesD_len, zeros_len, flatMap_len vc_len, List.length_append, List.length_take, List.length_drop, List.length_map, List.length_nil, List.length_cons, List.length_replicate, List.length_reverse, List.length_set, List.length_range, strB_size] <;> omega))) ?_
          refine RG.op _ _ rfl rfl (o_assign (.v _) rfl) ?_
          refine RG.nil (Exists.intro ((p.1 ++ [rvE (oneC (b[p.2]'hlt) (b.drop p.2))], p.2 + rnE (oneC (b[p.2]'hlt) (b.drop p.2)))) ⟨⟨by show _ ≤ _; omega, by simp; omega, by rw [hp3, parse_ok h0 (by rw [one_yes hlt p6]; exact h1) h2.1, addL_addL, List.drop_drop]⟩, (by show _ < _; omega), ?_⟩)
          exact .mk' ⟨⟨rfl, .v _⟩, ⟨ow_eq (by simp), (by first | exact .own _ _ _ _ _ (Nat.le_refl _) | exact .ptr _ _ _ (Nat.le_refl _) | exact .omp _ _ (Nat.le_refl _))⟩, trivial⟩ (by repeat (first | with_reducible exact same_refl _ _ | with_reducible refine same_updO (by with_unfolding_all exact rfl) ?_ | with_reducible refine same_updN ?_ | with_reducible refine same_updL (by with_unfolding_all exact rfl) ?_ | with_reducible refine same_forget (by with_unfolding_all exact rfl) ?_)) (congrArg (fun c => [c]) (tb_eq (by simp) (flat_snoc p.1 (rvE (oneC (b[p.2]'hlt) (b.drop p.2)))))) (by repeat (first | exact trivial | refine And.intro (Nat.le_refl _) ?_ | refine And.intro trivial ?_ | refine And.intro (by show _ ≤ _; (first | omega | (simp only [bytesD_len, zeros_len, flatMap_len vc_len, List.length_append, List.length_take, List.length_drop, List.length_map, List.length_nil, List.length_cons, List.length_replicate, List.length_reverse, List.length_set, List.length_range, strB_size] <;> omega))) ?_)) (by repeat (first | exact trivial | refine And.intro (okp (by repeat (first | exact pu_bytes _ | exact pu_nil | exact pu_vs rfl | exact pu_map (fun _ => .v _) _ | exact pu_vals _ | refine pu_app ?_ ?_ | refine pu_cons (by first | exact .v _ | exact .rd _ _ | exact .adr _ | exact .mp _ _ | exact .agg _ (by repeat (first | exact pu_bytes _ | exact pu_nil | exact pu_vs rfl | exact pu_map (fun _ => .v _) _ | exact pu_vals _ | refine pu_app ?_ ?_ | refine pu_cons (by first | exact .v _ | exact .rd _ _ | exact .adr _ | exact .mp _ _ | exact .agg _ (pu_vs rfl)) ?_)) | exact .tup _ (by repeat (first | exact pu_bytes _ | exact pu_nil | exact pu_vs rfl | exact pu_map (fun _ => .v _) _ | exact pu_vals _ | refine pu_app ?_ ?_ | refine pu_cons (by first | exact .v _ | exact .rd _ _ | exact .adr _ | exact .mp _ _ | exact .agg _ (pu_vs rfl)) ?_)) | exact .fn _ _ (by repeat (first | exact pu_bytes _ | exact pu_nil | exact pu_vs rfl | exact pu_map (fun _ => .v _) _ | exact pu_vals _ | refine pu_app ?_ ?_ | refine pu_cons (by first | exact .v _ | exact .rd _ _ | exact .adr _ | exact .mp _ _ | exact .agg _ (pu_vs rfl)) ?_)) | exact .iface _ _ (.v _) | exact .iface _ _ (.agg _ (by repeat (first | exact pu_bytes _ | exact pu_nil | exact pu_vs rfl | exact pu_map (fun _ => .v _) _ | exact pu_vals _ | refine pu_app ?_ ?_ | refine pu_cons (by first | exact .v _ | exact .rd _ _ | exact .adr _ | exact .mp _ _ | exact .agg _ (pu_vs rfl)) ?_)))) ?_))) ?_))
    ·
      have p4 := c4
      try simp only [decide_eq_true_eq, decide_eq_false_iff_not, Bool.and_eq_true, Bool.or_eq_true, Bool.not_eq_true', Bool.not_eq_false', Bool.and_eq_false_iff, Bool.or_eq_false_iff, beq_iff_eq, bne_iff_ne, beq_eq_false_iff_ne, bne_eq_false_iff_eq, Int.not_lt, Int.not_le, ne_eq, Decidable.not_not] at p4
      refine WC.exit (h4_ _ ?_)
      refine WC.seq fun Fh19_ h19_ => ?_
      refine WC.region ?_
      refine RG.op _ _ rfl rfl (o_move (.own _ _ _ _ _) rfl) ?_
      refine RG.op _ _ rfl rfl (o_assign (.own _ _ _ _ _) rfl) ?_
      refine RG.op _ _ rfl rfl (o_assign (.v _) rfl) ?_
      refine RG.nil (h19_ _ ?_)
      refine WC.ret ?_
      exact Ends.r2 rfl (.tmp _ (.own _ _ _ _ _) rfl) (.tmp _ (.v _) rfl) (.tb rfl (by repeat (first | exact pu_bytes _ | exact pu_nil | exact pu_vs rfl | exact pu_map (fun _ => .v _) _ | exact pu_vals _ | refine pu_app ?_ ?_ | refine pu_cons (by first | exact .v _ | exact .rd _ _ | exact .adr _ | exact .mp _ _ | exact .agg _ (by repeat (first | exact pu_bytes _ | exact pu_nil | exact pu_vs rfl | exact pu_map (fun _ => .v _) _ | exact pu_vals _ | refine pu_app ?_ ?_ | refine pu_cons (by first | exact .v _ | exact .rd _ _ | exact .adr _ | exact .mp _ _ | exact .agg _ (pu_vs rfl)) ?_)) | exact .tup _ (by repeat (first | exact pu_bytes _ | exact pu_nil | exact pu_vs rfl | exact pu_map (fun _ => .v _) _ | exact pu_vals _ | refine pu_app ?_ ?_ | refine pu_cons (by first | exact .v _ | exact .rd _ _ | exact .adr _ | exact .mp _ _ | exact .agg _ (pu_vs rfl)) ?_)) | exact .fn _ _ (by repeat (first | exact pu_bytes _ | exact pu_nil | exact pu_vs rfl | exact pu_map (fun _ => .v _) _ | exact pu_vals _ | refine pu_app ?_ ?_ | refine pu_cons (by first | exact .v _ | exact .rd _ _ | exact .adr _ | exact .mp _ _ | exact .agg _ (pu_vs rfl)) ?_)) | exact .iface _ _ (.v _) | exact .iface _ _ (.agg _ (by repeat (first | exact pu_bytes _ | exact pu_nil | exact pu_vs rfl | exact pu_map (fun _ => .v _) _ | exact pu_vals _ | refine pu_app ?_ ?_ | refine pu_cons (by first | exact .v _ | exact .rd _ _ | exact .adr _ | exact .mp _ _ | exact .agg _ (pu_vs rfl)) ?_)))) ?_))) (.v _) (by rw [hp3, parse_nil (by rw [List.length_drop]; omega)]; exact congrArg (fun c => D.tup [c, I64 0]) (rd_eq (n' := (p.1 ++ []).length) (cs' := (p.1 ++ []).flatMap vc) (by rw [List.append_nil]) (by rw [List.append_nil])))
end Go.Proofs.Ytmkljbcjgobjfaa
