/-
  Layer row: Get, the program's and the document's; what is long. No condition.
-/
import Derived.Test.YtbdibcpenihpdaaR4
import Derived.Test.YtbdibcpenihpdaaDlU
set_option linter.unusedSimpArgs false
set_option linter.unusedVariables false
namespace Go.Proofs.Ytbdibcpenihpdaa
open Go.RowKit Go.DL

def nullAt (b : List UInt8) (i : Nat) : Bool := decide ((b.getD (i / 8) 0).toNat / 2 ^ (i % 8) % 2 = 1)
theorem and1 (x : BitVec 8) (n : Nat) : ((x >>> n) &&& 1#8).toNat = x.toNat / 2 ^ n % 2 := by
  rw [BitVec.toNat_and, BitVec.toNat_ushiftRight, Nat.shiftRight_eq_div_pow]
  exact Nat.and_one_is_mod _
theorem and1B (x : BitVec 8) (n : Nat) : U8 ((x >>> n) &&& 1#8) = B8 (UInt8.ofNat (x.toNat / 2 ^ n % 2)) := by
  show D.v (.int .u8 (_ : Int)) = D.v (.int .u8 (_ : Int))
  rw [and1, UInt8.toNat_ofNat', Nat.mod_eq_of_lt (b := 2 ^ 8) (by omega)]
theorem bit1 {m : Nat} (h : m < 2) : decide (UInt8.ofNat m = 1) = decide (m = 1) := by
  rcases (by omega : m = 0 ∨ m = 1) with h | h <;> subst h <;> rfl
theorem bit8 (m : Nat) : D.v (.int .u8 ((m : Int) % 2)) = B8 (UInt8.ofNat (m % 2)) := by
  show D.v (.int .u8 _) = D.v (.int .u8 (_ : Int))
  rw [UInt8.toNat_ofNat', Nat.mod_eq_of_lt (b := 2 ^ 8) (by omega)]; rfl
theorem null_is {b : List UInt8} {i : Nat} (h : i / 8 < b.length) : nullAt b i = (UInt8.ofNat ((b[i / 8]).toNat / 2 ^ (i % 8) % 2) == 1) := by
  unfold nullAt
  rw [← gd_at h]
  exact (bit1 (by omega)).symm
set_option maxHeartbeats 4000000 in
theorem null_c (b : List UInt8) (i : Nat) (hi : i / 8 < b.length) (hb : b.length ≤ 10995116277760) : Fun Try.prog 35 [I64 ((i : Nat) : Int), .adr [rdB b]] (· = Bo (nullAt b i)) := by
  refine Fun.of Try.func35 rfl (Nat.le_of_ble_eq_true rfl) fun C => ?_
  refine WC.seq fun Fh1_ h1_ => ?_
  refine WC.region ?_
  refine RG.op _ _ rfl rfl (o_assign (.v _) rfl) ?_
  refine RG.nil (h1_ _ ?_)
  refine WC.seq fun Fh2_ h2_ => ?_
  refine WC.region ?_
  refine RG.op _ _ rfl rfl (o_load_adr rfl Try.underlying22 rfl rfl) ?_
  refine RG.op _ _ rfl rfl (o_move (.v _) rfl) ?_
  refine RG.op _ _ rfl rfl (o_quo rfl rfl (by first | omega | exact ubyte _ | (simp only [LS] <;> omega)) (by first | omega | exact ubyte _ | (simp only [LS] <;> omega)) (by first | omega | exact ubyte _ | (simp only [LS] <;> omega))) ?_
  refine RG.op _ _ rfl rfl (o_ixn_M (i / 8) rfl rfl Try.underlying22 (sz_of Ty.inf5) (by first | omega | exact ubyte _ | (simp only [LS] <;> omega)) (by first | omega | exact ubyte _ | (simp only [LS] <;> omega))) ?_
  refine RG.op _ _ rfl rfl (o_load_adr rfl Try.underlying5 rfl rfl) ?_
  refine RG.op _ _ rfl rfl (o_move (.v _) rfl) ?_
  refine RG.op _ _ rfl rfl ((o_rem (b := 8) rfl rfl (by omega) (by omega)).cast (congrArg I64 (show (i : Int) % 8 = ((i % 8 : Nat) : Int) by omega))) ?_
  refine RG.op _ _ rfl rfl ((o_i64toU rfl Try.underlying3 Try.underlying59).cast (congrArg N64 (show (((i % 8 : Nat) : Int) % 18446744073709551616).toNat = i % 8 by omega))) ?_
  refine RG.op _ _ rfl rfl (o_shr8 (x := (b[i / 8]).toBitVec) (i % 8) rfl rfl (by omega)) ?_
  refine RG.op _ _ rfl rfl ((o_and8 (y := 1#8) rfl rfl).cast (and1B _ _)) ?_
  refine RG.op _ _ rfl rfl (o_eqB (b := 1) rfl rfl) ?_
  refine RG.op _ _ rfl rfl (o_assign (.v _) rfl) ?_
  refine RG.nil (h2_ _ ?_)
  refine WC.ret ?_
  exact Ends.r1 rfl (.tmp _ (.v _) rfl) (.v _) (by rw [show nullAt b i = decide ((b[i / 8]).toBitVec.toNat / 2 ^ (i % 8) % 2 = 1) by unfold nullAt; rw [gd_at hi]; rfl]; exact congrArg Bo (bit1 (by omega)))
def long4 (ts : List UInt8) (l : List Val) : Bool := decide (60 < ts.length) || decide (60 < l.length) || l.any fun v => decide (400 < v.t.length)
set_option maxHeartbeats 4000000 in
theorem long4_c (ts : List UInt8) (l : List Val) (h1 : ts.length ≤ 9223372036854775807) (h2 : l.length ≤ 9223372036854775807) : Fun Try.prog 15 [rdB ts, rdV l] (· = Bo (long4 ts l)) := by
  refine Fun.of Try.func15 rfl (Nat.le_of_ble_eq_true rfl) fun C => ?_
  refine WC.seq fun Fh1_ h1_ => ?_
  refine WC.region ?_
  refine RG.op _ _ rfl rfl (o_assign (.v _) rfl) ?_
  refine RG.nil (h1_ _ ?_)
  refine WC.seq fun Fh2_ h2_ => ?_
  refine WC.seq fun Fh3_ h3_ => ?_
  refine WC.region ?_
  refine RG.op _ _ rfl rfl (o_move (.rd _ _) rfl) ?_
  refine RG.op _ _ rfl rfl (o_len_rd rfl Try.underlying22) ?_
  refine RG.op _ _ rfl rfl (o_gtI rfl rfl) ?_
  refine RG.op _ _ rfl rfl (o_move (.v _) rfl) ?_
  refine RG.opg1 _ _ _ _ _ rfl rfl rfl rfl rfl (fun hb => o_move (.rd _ _) rfl) ?_
  refine RG.opg1 _ _ _ _ _ rfl rfl rfl rfl rfl (fun hb => o_len_rd (gdT hb) Try.underlying23) ?_
  refine RG.opg1 _ _ _ _ _ rfl rfl rfl rfl rfl (fun hb => o_gtI (gdT hb) rfl) ?_
  refine RG.op _ _ rfl rfl (o_or _ _ rfl rfl rfl) ?_
  refine RG.nil (h3_ _ ?_)
  refine WC.cond _ rfl (fun c1 => ?_) (fun c1 => ?_)
  ·
    have p1 := c1
    try simp only [CN] at p1
    refine WC.seq fun Fh4_ h4_ => ?_
    refine WC.region ?_
    refine RG.op _ _ rfl rfl (o_assign (.v _) rfl) ?_
    refine RG.nil (h4_ _ ?_)
    refine WC.ret ?_
    exact Ends.r1 rfl (.tmp _ (.v _) rfl) (.v _) (congrArg Bo (by unfold long4; rcases p1 with h | h; (rw [decide_eq_true (show 60 < ts.length by omega)]; rfl); (rw [decide_eq_true (show 60 < l.length by omega), Bool.or_true]; rfl)))
  ·
    have p1 := c1
    try simp only [CN] at p1
    refine WC.skip (h2_ _ ?_)
    refine WC.seq fun Fh5_ h5_ => ?_
    refine WC.seq fun Fh6_ h6_ => ?_
    refine WC.region ?_
    refine RG.op _ _ rfl rfl (o_assign (.v _) rfl) ?_
    refine RG.nil (h6_ _ ?_)
    refine WC.block ?_
    refine WC.loopU [4, 5, 14, 15, 16, 17, 18, 19, 20, 21, 22, 23, 24, 25, 26] (fun (k : Nat) => [(5, I64 ((k : Nat) : Int))]) (fun (k : Nat) => []) (fun (k : Nat) => k ≤ l.length ∧ (l.take k).any (fun v => decide (400 < v.t.length)) = false) (fun (k : Nat) => l.length - k) 0 ⟨by omega, rfl⟩ ?lpa7_ ?lpb8_
    case lpa7_ =>
      exact .mk' ⟨⟨rfl, .v _⟩, trivial⟩ (same_refl _ _) (rfl) (by repeat (first | exact trivial | refine And.intro (Nat.le_refl _) ?_ | refine And.intro trivial ?_ | refine And.intro (by show _ ≤ _; (first | omega | (simp only [LS] <;> omega))) ?_)) (by repeat (first | exact trivial | refine And.intro (okp (by repeat (first | exact pu_bytes _ | exact pu_nil | exact pu_vs rfl | exact pu_map (fun _ => .v _) _ | exact pu_vals _ | refine pu_app ?_ ?_ | refine pu_cons (by exact pu_of rfl) ?_))) ?_))
    case lpb8_ =>
      rintro k hI
      obtain ⟨hk, ha⟩ := id hI
      refine WC.seq fun Fh9_ h9_ => ?_
      refine WC.seq fun Fh10_ h10_ => ?_
      refine WC.region ?_
      refine RG.op _ _ rfl rfl (o_move (.v _) rfl) ?_
      refine RG.op _ _ rfl rfl (o_move (.rd _ _) rfl) ?_
      refine RG.op _ _ rfl rfl (o_len_rd rfl Try.underlying23) ?_
      refine RG.op _ _ rfl rfl (o_ltI rfl rfl) ?_
      refine RG.nil (h10_ _ ?_)
      refine WC.cond _ rfl (fun c4 => ?_) (fun c4 => ?_)
      ·
        have p4 := c4
        try simp only [CN] at p4
        refine WC.skip (h9_ _ ?_)
        refine WC.seq fun Fh11_ h11_ => ?_
        refine WC.block ?_
        refine WC.seq fun Fh12_ h12_ => ?_
        refine WC.region ?_
        refine RG.op _ _ rfl rfl (o_move (.rd _ _) rfl) ?_
        refine RG.op _ _ rfl rfl (o_move (.v _) rfl) ?_
        refine RG.op _ _ rfl rfl (o_ixn_L k vc_len rfl rfl rfl Try.underlying23 (sz_of Ty.inf37) (by first | omega | exact ubyte _ | (simp only [LS] <;> omega)) (by first | omega | exact ubyte _ | (simp only [LS] <;> omega))) ?_
        refine RG.op _ _ rfl rfl (o_fld_adr rfl Try.underlying37 rfl (sz_of Ty.inf9) (by decide)) ?_
        refine RG.op _ _ rfl rfl (o_load_adr rfl Try.underlying9 rfl rfl) ?_
        refine RG.op _ _ rfl rfl (o_lenS rfl Try.underlying9) ?_
        refine RG.op _ _ rfl rfl (o_gtI rfl rfl) ?_
        refine RG.nil (h12_ _ ?_)
        refine WC.cond _ rfl (fun c6 => ?_) (fun c6 => ?_)
        ·
          have p6 := c6
          try simp only [CN] at p6
          refine WC.seq fun Fh13_ h13_ => ?_
          refine WC.region ?_
          refine RG.op _ _ rfl rfl (o_assign (.v _) rfl) ?_
          refine RG.nil (h13_ _ ?_)
          refine WC.ret ?_
          exact Ends.r1 rfl (.tmp _ (.v _) rfl) (.v _) (congrArg Bo (by unfold long4; rw [any_stop (l := l) (k := k) (f := fun v => decide (400 < v.t.length)) (by omega) (decide_eq_true (by omega)), Bool.or_true]))
        ·
          have p6 := c6
          try simp only [CN] at p6
          refine WC.skip (h11_ _ ?_)
          refine WC.region ?_
          refine RG.op _ _ rfl rfl (o_move (.v _) rfl) ?_
          refine RG.op _ _ rfl rfl (o_add rfl rfl (by first | omega | exact ubyte _ | (simp only [LS] <;> omega)) (by first | omega | exact ubyte _ | (simp only [LS] <;> omega))) ?_
          refine RG.op _ _ rfl rfl (o_assign (.v _) rfl) ?_
          refine RG.nil (Exists.intro (k + 1) ⟨⟨by omega, any_step (by omega) hI.2 (decide_eq_false (by omega))⟩, by first | omega | (simp only [LS] <;> omega), ?_⟩)
          exact .mk' ⟨⟨rfl, .v _⟩, trivial⟩ (by repeat (first | with_reducible exact same_refl _ _ | with_reducible refine same_updO (by with_unfolding_all exact rfl) ?_ | with_reducible refine same_updN ?_ | with_reducible refine same_updL (by with_unfolding_all exact rfl) ?_ | with_reducible refine same_forget (by with_unfolding_all exact rfl) ?_)) (rfl) (by repeat (first | exact trivial | refine And.intro (Nat.le_refl _) ?_ | refine And.intro trivial ?_ | refine And.intro (by show _ ≤ _; (first | omega | (simp only [LS] <;> omega))) ?_)) (by repeat (first | exact trivial | refine And.intro (okp (by repeat (first | exact pu_bytes _ | exact pu_nil | exact pu_vs rfl | exact pu_map (fun _ => .v _) _ | exact pu_vals _ | refine pu_app ?_ ?_ | refine pu_cons (by exact pu_of rfl) ?_))) ?_))
      ·
        have p4 := c4
        try simp only [CN] at p4
        refine WC.exit (h5_ _ ?_)
        refine WC.seq fun Fh14_ h14_ => ?_
        refine WC.region ?_
        refine RG.op _ _ rfl rfl (o_assign (.v _) rfl) ?_
        refine RG.nil (h14_ _ ?_)
        refine WC.ret ?_
        exact Ends.r1 rfl (.tmp _ (.v _) rfl) (.v _) (congrArg Bo (by have e : k = l.length := (by omega); subst e; rw [List.take_length] at ha; unfold long4; rw [decide_eq_false (show ¬ 60 < ts.length by omega), decide_eq_false (show ¬ 60 < l.length by omega), ha]; rfl))
/-! ### Get -/
def lgf (c : UInt8) : Nat := if c = 1 then 49 else if c = 2 then 51 else 53
theorem lgv_eq {c : UInt8} (h : tyB c = true) : lgv c = .func (.func (lgf c)) #[] #[] := by
  rcases tyB_cases h with h | h | h <;> subst h <;> rfl
theorem cal_lgf (c : UInt8) : DL.Callee Try.prog (lgf c) := by
  unfold lgf
  split
  · exact Ty.cal49
  · split
    · exact Ty.cal51
    · exact Ty.cal53
theorem lget_c {c : UInt8} (hc : tyB c = true) (b : List UInt8) (hb : b.length ≤ 10995116277760) : Fun Try.prog (lgf c) [rdB b] (· = VR (getR c b)) := by
  rcases tyB_cases hc with h | h | h
  · subst h; exact gbool_c b hb
  · subst h; exact gint_c b hb
  · subst h; exact gtext_c b hb
theorem getR_len (t : UInt8) (b : List UInt8) : (getR t b).2.1 ≤ b.length := by
  have h := vget_len (b := b)
  unfold getR
  split
  · unfold boolR
    split
    · exact Nat.zero_le _
    · split
      · exact Nat.zero_le _
      · show 1 ≤ _; omega
  · split
    · unfold intR
      split
      · exact h.1
      · exact Nat.zero_le _
    · unfold textRR
      split
      · split
        · exact Nat.zero_le _
        · show _ + _ ≤ _; omega
      · exact Nat.zero_le _
def getL (b : List UInt8) : List UInt8 → Nat → Nat → List Val → List Val × Nat × Nat
  | [], _, a, acc => (acc, a, 0)
  | t :: ts, i, a, acc => if nullAt b i = true then getL b ts (i + 1) a (acc ++ [z0]) else if (getR t (b.drop a)).2.2 = 0 then getL b ts (i + 1) (a + (getR t (b.drop a)).2.1) (acc ++ [(getR t (b.drop a)).1]) else ([], 0, (getR t (b.drop a)).2.2)
section
variable {b ts : List UInt8} {k a : Nat} {acc : List Val}
theorem getL_null (hk : k < ts.length) (h : nullAt b k = true) : getL b (ts.drop k) k a acc = getL b (ts.drop (k + 1)) (k + 1) a (acc ++ [z0]) := by
  rw [List.drop_eq_getElem_cons hk, getL, if_pos h]
theorem getL_val (hk : k < ts.length) (h : nullAt b k = false) (h0 : (getR ts[k] (b.drop a)).2.2 = 0) : getL b (ts.drop k) k a acc = getL b (ts.drop (k + 1)) (k + 1) (a + (getR ts[k] (b.drop a)).2.1) (acc ++ [(getR ts[k] (b.drop a)).1]) := by
  rw [List.drop_eq_getElem_cons hk, getL, if_neg (by rw [h]; decide), if_pos h0]
theorem getL_bad (hk : k < ts.length) (h : nullAt b k = false) (h0 : ¬ (getR ts[k] (b.drop a)).2.2 = 0) : getL b (ts.drop k) k a acc = ([], 0, (getR ts[k] (b.drop a)).2.2) := by
  rw [List.drop_eq_getElem_cons hk, getL, if_neg (by rw [h]; decide), if_neg h0]
theorem getL_end (hk : k = ts.length) : getL b (ts.drop k) k a acc = (acc, a, 0) := by
  subst hk; rw [List.drop_length]; rfl
end
def hd8 (ts : List UInt8) : Nat := (ts.length + 7) / 8
def padOK (ts b : List UInt8) : Bool := rall (8 * hd8 ts - ts.length) fun j => !nullAt b (ts.length + j)
def getM (ts b : List UInt8) : List Val × Nat :=
  if ts.all tyB = false then ([], 1) else if b.length < hd8 ts then ([], 20) else if padOK ts b = false then ([], 21) else
  if (getL b ts 0 (hd8 ts) []).2.2 = 0 then (if (getL b ts 0 (hd8 ts) []).2.1 = b.length then ((getL b ts 0 (hd8 ts) []).1, 0) else ([], 21)) else ([], (getL b ts 0 (hd8 ts) []).2.2)
abbrev VL (r : List Val × Nat) : D := .tup [rdV r.1, I64 r.2]
theorem getM_arg {ts b : List UInt8} (h : ts.all tyB = false) : getM ts b = ([], 1) := by unfold getM; rw [if_pos h]
theorem getM_short {ts b : List UInt8} (h : ts.all tyB = true) (h1 : b.length < hd8 ts) : getM ts b = ([], 20) := by unfold getM; rw [if_neg (by rw [h]; decide), if_pos h1]
theorem getM_pad {ts b : List UInt8} {k : Nat} (h : ts.all tyB = true) (h1 : ¬ b.length < hd8 ts) (hk : ts.length ≤ k) (hk2 : k < 8 * hd8 ts) (h2 : nullAt b k = true) : getM ts b = ([], 21) := by
  have h3 : padOK ts b = false := rall_stop (k := k - ts.length) (by omega) (by show (!nullAt b (ts.length + (k - ts.length))) = false; rw [show ts.length + (k - ts.length) = k by omega, h2]; rfl)
  unfold getM
  rw [if_neg (by rw [h]; decide), if_neg h1, if_pos h3]
theorem getM_go {ts b : List UInt8} (h : ts.all tyB = true) (h1 : ¬ b.length < hd8 ts) (h2 : padOK ts b = true) {l : List Val} {a c : Nat} (hg : getL b ts 0 (hd8 ts) [] = (l, a, c)) : getM ts b = if c = 0 then (if a = b.length then (l, 0) else ([], 21)) else ([], c) := by
  unfold getM
  rw [if_neg (by rw [h]; decide), if_neg h1, if_neg (by rw [h2]; decide), hg]
theorem fill_null {acc : List Val} {k n : Nat} (h : k < n) : acc ++ List.replicate (n - k) z0 = (acc ++ [z0]) ++ List.replicate (n - (k + 1)) z0 := by
  rw [show n - k = (n - (k + 1)) + 1 by omega, List.replicate_succ]; simp
theorem flen (l : List Val) : (l.flatMap vc).length = l.length * 3 := flatMap_len vc_len l
theorem spl_mid {α : Type} {A B C E : List α} {o : Nat} (ho : o = A.length) (h : E.length = B.length) : spl (A ++ B ++ C) o E = A ++ E ++ C := by
  subst ho
  unfold spl
  rw [List.append_assoc A B C, List.take_left, h, ← List.append_assoc, show A.length + B.length = (A ++ B).length by simp, List.drop_left]
theorem fill_val {acc : List Val} {k n : Nat} (h : k < n) (hl : acc.length = k) (v : Val) : spl ((acc ++ List.replicate (n - k) z0).flatMap vc) (0 + k * 3) (vc v) = ((acc ++ [v]) ++ List.replicate (n - (k + 1)) z0).flatMap vc := by
  rw [fill_null h]
  simp only [List.flatMap_append, List.flatMap_cons, List.flatMap_nil, List.append_nil]
  exact spl_mid (by rw [flen, hl]; omega) rfl
theorem vs_snoc (l : List Val) (v : Val) : l.flatMap vc ++ [B8 v.k, I64 v.i, S v.t] = (l ++ [v]).flatMap vc := by simp [vc]
theorem zs_vals {zv : Value} (hz : zv.cells.toList = [.int .u8 0, .int .i64 0, .string (strB [])]) : ∀ n : Nat, (zeros zv (n * 3) 3).map D.v = (List.replicate n z0).flatMap vc
  | 0 => by simp [zeros]
  | n + 1 => by
    have ih := zs_vals hz n
    unfold zeros at *
    rw [hz] at *
    rw [show (n + 1) * 3 = n * 3 + 1 + 1 + 1 by omega, List.range_succ, List.range_succ, List.range_succ, List.replicate_succ', List.flatMap_append, ← ih]
    simp only [List.map_append, List.map_cons, List.map_nil, List.append_assoc]
    rw [show n * 3 % 3 = 0 by omega, show (n * 3 + 1) % 3 = 1 by omega, show (n * 3 + 1 + 1) % 3 = 2 by omega]
    rfl
end Go.Proofs.Ytbdibcpenihpdaa
