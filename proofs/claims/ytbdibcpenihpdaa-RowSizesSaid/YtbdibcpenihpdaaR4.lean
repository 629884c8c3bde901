/-
  Layer row: the nulls' bytes; the program's Put and the document's. No condition.
-/
import Derived.Test.YtbdibcpenihpdaaR3
import Derived.Test.YtbdibcpenihpdaaDlU
set_option linter.unusedSimpArgs false
set_option linter.unusedVariables false
namespace Go.Proofs.Ytbdibcpenihpdaa
open Go.RowKit Go.DL

/-! ### The nulls' bytes -/
def nb (l : List Val) (k j : Nat) : Nat → Nat
  | 0 => 0
  | r + 1 => nb l k j r + (if 8 * j + r < k ∧ (l.getD (8 * j + r) z0).k = 0 then 2 ^ r else 0)
def nbits (l : List Val) (k m : Nat) : List UInt8 := (List.range m).map fun j => UInt8.ofNat (nb l k j 8)
theorem nbits_len (l : List Val) (k m : Nat) : (nbits l k m).length = m := by simp [nbits]
theorem nb_succ (l : List Val) (k j : Nat) : ∀ r, nb l (k + 1) j r = nb l k j r + (if 8 * j ≤ k ∧ k < 8 * j + r ∧ (l.getD k z0).k = 0 then 2 ^ (k - 8 * j) else 0)
  | 0 => by rw [nb, nb, if_neg (by omega)]
  | r + 1 => by
    rw [nb, nb, nb_succ l k j r]
    by_cases he : 8 * j + r = k
    · rw [he]
      by_cases hk : (l.getD k z0).k = 0
      · rw [if_neg (by omega), if_pos ⟨by omega, hk⟩, if_neg (by omega), if_pos ⟨by omega, by omega, hk⟩, show k - 8 * j = r by omega]
      · rw [if_neg (by omega), if_neg (fun h => hk h.2), if_neg (by omega), if_neg (fun h => hk h.2.2)]
    · have h1 : (8 * j + r < k + 1 ∧ (l.getD (8 * j + r) z0).k = 0) ↔ (8 * j + r < k ∧ (l.getD (8 * j + r) z0).k = 0) := ⟨fun h => ⟨by omega, h.2⟩, fun h => ⟨by omega, h.2⟩⟩
      have h2 : (8 * j ≤ k ∧ k < 8 * j + (r + 1) ∧ (l.getD k z0).k = 0) ↔ (8 * j ≤ k ∧ k < 8 * j + r ∧ (l.getD k z0).k = 0) := ⟨fun h => ⟨by omega, by omega, h.2.2⟩, fun h => ⟨by omega, by omega, h.2.2⟩⟩
      simp only [h1, h2]; omega
theorem nb_lt (l : List Val) (k j : Nat) : ∀ r, nb l k j r < 2 ^ (min r (k - 8 * j))
  | 0 => by rw [nb]; exact Nat.pow_pos (by omega)
  | r + 1 => by
    have ih := nb_lt l k j r
    rw [nb]
    by_cases h : 8 * j + r < k
    · rw [show min (r + 1) (k - 8 * j) = r + 1 by omega, Nat.pow_succ]
      rw [show min r (k - 8 * j) = r by omega] at ih
      split <;> omega
    · rw [if_neg (fun hh => h hh.1), show min (r + 1) (k - 8 * j) = min r (k - 8 * j) by omega]
      exact ih
theorem nb_at (l : List Val) (k : Nat) : nb l k (k / 8) 8 < 2 ^ (k % 8) := by
  have := nb_lt l k (k / 8) 8
  rwa [show min 8 (k - 8 * (k / 8)) = k % 8 by omega] at this
theorem nb_256 (l : List Val) (k j : Nat) : nb l k j 8 < 256 := by
  have := nb_lt l k j 8
  have h2 : 2 ^ (min 8 (k - 8 * j)) ≤ 2 ^ 8 := Nat.pow_le_pow_right (by omega) (by omega)
  omega
theorem nb_zero (l : List Val) (k j : Nat) (h : k ≤ 8 * j) : nb l k j 8 = 0 := by
  have := nb_lt l k j 8
  rw [show min 8 (k - 8 * j) = 0 by omega] at this
  omega
theorem nbits_same {l : List Val} {k m : Nat} (h : ¬ (l.getD k z0).k = 0) : nbits l (k + 1) m = nbits l k m := by
  unfold nbits
  apply List.map_congr_left
  intro j _
  rw [nb_succ, if_neg (fun hh => h hh.2.2), Nat.add_zero]
theorem pow7 (k : Nat) : 2 ^ (k % 8) ≤ 128 := Nat.le_trans (Nat.pow_le_pow_right (by omega) (by omega : k % 8 ≤ 7)) (by decide)
theorem nbits_set {l : List Val} {k m : Nat} (h : (l.getD k z0).k = 0) (hm : k / 8 < m) : nbits l (k + 1) m = (nbits l k m).set (k / 8) (UInt8.ofNat (nb l k (k / 8) 8 + 2 ^ (k % 8))) := by
  apply List.ext_getElem?
  intro j
  rw [List.getElem?_set, nbits_len]
  unfold nbits
  by_cases hj : j < m
  · simp only [List.getElem?_map, List.getElem?_range hj, Option.map_some]
    rw [nb_succ]
    by_cases e : k / 8 = j
    · subst e
      rw [if_pos rfl, if_pos hj, if_pos ⟨by omega, by omega, h⟩, show k - 8 * (k / 8) = k % 8 by omega]
    · rw [if_neg e, if_neg (by omega), Nat.add_zero]
  · rw [if_neg (by omega), List.getElem?_eq_none (by simp; omega), List.getElem?_eq_none (by simp; omega)]
theorem or_bit {a r : Nat} (h : a < 2 ^ r) (hr : r < 8) : UInt8.ofNat a ||| UInt8.ofNat (2 ^ r) = UInt8.ofNat (a + 2 ^ r) := by
  have hp : 2 ^ r ≤ 128 := Nat.le_trans (Nat.pow_le_pow_right (by omega) (by omega : r ≤ 7)) (by decide)
  apply UInt8.toNat_inj.1
  rw [UInt8.toNat_or, UInt8.toNat_ofNat', UInt8.toNat_ofNat', UInt8.toNat_ofNat', Nat.mod_eq_of_lt (by omega), Nat.mod_eq_of_lt (by omega), Nat.mod_eq_of_lt (by omega)]
  have := Nat.two_pow_add_eq_or_of_lt h 1
  rw [Nat.mul_one] at this
  rw [Nat.or_comm, ← this, Nat.add_comm]
theorem add_bit {a r : Nat} : UInt8.ofNat a + UInt8.ofNat (2 ^ r) = UInt8.ofNat (a + 2 ^ r) := by
  apply UInt8.toNat_inj.1
  rw [UInt8.toNat_add, UInt8.toNat_ofNat', UInt8.toNat_ofNat', UInt8.toNat_ofNat']; omega
theorem nbits_get {l : List Val} {k m j : Nat} (h : j < m) (tl : List UInt8) : (bytesD (nbits l k m ++ tl))[0 + j * 1]? = some (B8 (UInt8.ofNat (nb l k j 8))) := by
  rw [Nat.mul_one, Nat.zero_add, bytesD, List.getElem?_map, List.getElem?_append_left (by rw [nbits_len]; exact h)]
  unfold nbits
  rw [List.getElem?_map, List.getElem?_range h]; rfl
theorem nbits_put {l : List Val} {k m : Nat} (h : (l.getD k z0).k = 0) (hm : k / 8 < m) (tl : List UInt8) {c : UInt8} (hc : c = UInt8.ofNat (nb l k (k / 8) 8 + 2 ^ (k % 8))) : spl (bytesD (nbits l k m ++ tl)) (0 + k / 8 * 1) [B8 c] = bytesD (nbits l (k + 1) m ++ tl) := by
  subst hc
  rw [Nat.mul_one, Nat.zero_add, spl_one _ _ _ (by rw [bytesD_len, List.length_append, nbits_len]; omega), nbits_set h hm]
  unfold bytesD
  rw [← List.set_append_left _ _ (by rw [nbits_len]; exact hm), List.map_set]; rfl
theorem nbits_get1 {l : List Val} {k m j : Nat} (h : j < m) : (bytesD (nbits l k m))[0 + j * 1]? = some (B8 (UInt8.ofNat (nb l k j 8))) := by
  have := nbits_get (l := l) (k := k) h []
  rwa [List.append_nil] at this
theorem nbits_put1 {l : List Val} {k m : Nat} (h : (l.getD k z0).k = 0) (hm : k / 8 < m) {c : UInt8} (hc : c = UInt8.ofNat (nb l k (k / 8) 8 + 2 ^ (k % 8))) : spl (bytesD (nbits l k m)) (0 + k / 8 * 1) [B8 c] = bytesD (nbits l (k + 1) m) := by
  have := nbits_put h hm [] hc
  rwa [List.append_nil, List.append_nil] at this
theorem nbits_new {l : List Val} {k : Nat} (h : k % 8 = 0) : bytesD (nbits l k ((k + 7) / 8)) ++ [B8 0] = bytesD (nbits l k (k / 8 + 1)) := by
  rw [show (k + 7) / 8 = k / 8 by omega]
  unfold nbits bytesD
  rw [List.range_succ, List.map_append, List.map_append, List.map_singleton, List.map_singleton, nb_zero l k (k / 8) (by omega)]; rfl
section
variable {P : Program} {C : Ctx} {env : Nat → D} {H : Heap} {dst : Option Nat} {ty t t' : TypeId} {pos : String} {after : Array Edge} {gu : Option (Nat × Bool)} {X Y : Operand}
theorem shl1_val {n : Nat} (hn : n < 8) : IntKind.u8.wrap ((1 : Int) * 2 ^ n) = ((UInt8.ofNat (2 ^ n)).toNat : Int) := by
  rcases (by omega : n = 0 ∨ n = 1 ∨ n = 2 ∨ n = 3 ∨ n = 4 ∨ n = 5 ∨ n = 6 ∨ n = 7) with h | h | h | h | h | h | h | h <;> subst h <;> rfl
theorem o_shl1 {n : Nat} (hx : ev env X = B8 1) (hy : ev env Y = N64 n) (hn : n < 8) : OpD P C ⟨dst, .binOp .shl t X Y t', ty, pos, after, gu⟩ env H (B8 (UInt8.ofNat (2 ^ n))) H :=
  (o_bin _ hx hy (shl_run (k := .u8) (x := 1) (n := n) (by show n ≤ 8; omega))).cast (v_int (shl1_val hn))
theorem o_shl1I {n : Nat} (hx : ev env X = B8 1) (hy : ev env Y = I64 n) (hn : n < 8) : OpD P C ⟨dst, .binOp .shl t X Y t', ty, pos, after, gu⟩ env H (B8 (UInt8.ofNat (2 ^ n))) H :=
  (o_shlI (k := .u8) (x := 1) hx hy (by show n ≤ 8; omega)).cast (v_int (shl1_val hn))
end
/-! ### Putters, by kind -/
def lpf (c : UInt8) : Nat := if c = 1 then 48 else if c = 2 then 50 else 52
theorem lpv_eq {c : UInt8} (h : tyB c = true) : lpv c = .func (.func (lpf c)) #[] #[] := by
  rcases tyB_cases h with h | h | h <;> subst h <;> rfl
theorem cal_lpf (c : UInt8) : DL.Callee Try.prog (lpf c) := by
  unfold lpf
  split
  · exact Ty.cal48
  · split
    · exact Ty.cal50
    · exact Ty.cal52
theorem oneR_len {v : Val} (hv : inI v) (ht : v.t.length ≤ 1099511627776) : (oneR v).length ≤ 10 + v.t.length := by
  unfold oneR
  split
  · simp; omega
  · split
    · have := encB_len10 (zig_le hv.1 hv.2); omega
    · split
      · have := encB_len10 (u := v.t.length) (by omega)
        simp; omega
      · simp
theorem pone_c {c : UInt8} (b : List UInt8) (v : Val) (hk : v.k = c) (hc : tyB c = true) (hb : b.length ≤ 10995116277760) (hv : inI v) (ht : v.t.length ≤ 1099511627776) : FunM Try.prog (lpf c) [ow 0 b.length 1, VD v] [tb 5 b.length (bytesD b)] (fun o H' => o = .ret (ow 0 (b.length + (oneR v).length) 1) ∧ H' = [tb 5 (b.length + (oneR v).length) (bytesD (b ++ oneR v))]) := by
  rcases tyB_cases hc with h | h | h
  · subst h
    have e : oneR v = [UInt8.ofNat (v.i % 256).toNat] := by unfold oneR; rw [if_pos hk]
    rw [e]; exact pbool_c b v hb
  · subst h
    have e : oneR v = encB (zigN v.i) := by unfold oneR; rw [if_neg (by rw [hk]; decide), if_pos hk]
    rw [e]; exact pint_c b v hb hv
  · subst h
    have e : oneR v = encB v.t.length ++ v.t := by unfold oneR; rw [if_neg (by rw [hk]; decide), if_neg (by rw [hk]; decide), if_pos hk]
    rw [e, List.length_append, ← Nat.add_assoc]; exact ptext_c b v hb ht
/-! ### Put -/
def nm (l : List Val) : Nat := (l.length + 7) / 8
def putM (ts : List UInt8) (l : List Val) : Option (List UInt8) := bif ts.all tyB && rowM ts l then some (nbits l l.length (nm l) ++ l.flatMap oneR) else none
def szR (l : List Val) : Nat := (l.map fun v => v.t.length + 10).sum
theorem szR_le (l : List Val) : szR l ≤ szM l := by
  induction l with
  | nil => simp [szR, szM]
  | cons v l ih => simp only [szR, szM, List.map_cons, List.sum_cons] at *; omega
theorem ones_szR {l : List Val} (hv : ∀ v ∈ l, inI v) (ht : ∀ v ∈ l, v.t.length ≤ 1099511627776) : (l.flatMap oneR).length ≤ szR l := by
  induction l with
  | nil => simp [szR]
  | cons v l ih =>
    have h1 := oneR_len (hv v (by simp)) (ht v (by simp))
    have h2 := ih (fun w hw => hv w (by simp [hw])) (fun w hw => ht w (by simp [hw]))
    simp only [szR, List.map_cons, List.sum_cons, List.flatMap_cons, List.length_append] at *; omega
theorem szR_take (l : List Val) (k : Nat) : szR (l.take k) ≤ szR l := by
  conv => rhs; rw [← List.take_append_drop k l]
  unfold szR
  rw [List.map_append, List.sum_append]; omega
theorem onesR_step {l : List Val} {k : Nat} (h : k < l.length) : (l.take (k + 1)).flatMap oneR = (l.take k).flatMap oneR ++ oneR l[k] := by
  rw [List.take_succ_eq_append_getElem h, List.flatMap_append]; simp
theorem oneR_null {v : Val} (h : v.k = 0) : oneR v = [] := by unfold oneR; rw [if_neg (by rw [h]; decide), if_neg (by rw [h]; decide), if_neg (by rw [h]; decide)]
theorem kind_at {ts : List UInt8} {l : List Val} {k : Nat} (h : rowM ts l = true) (ht : ts.all tyB = true) (hk : k < l.length) (h0 : ¬ l[k].k = 0) : tyB l[k].k = true := by
  unfold rowM kinds at h
  simp only [Bool.and_eq_true, decide_eq_true_eq] at h
  have h1 := rall_iff.1 h.1.2 k hk
  unfold kOK at h1
  rw [← gv_at hk] at h1
  simp only [Bool.or_eq_true, decide_eq_true_eq] at h1
  rcases h1 with h1 | h1
  · exact absurd h1 h0
  · have hkt : k < ts.length := by omega
    rw [h1, List.getD_eq_getElem?_getD, List.getElem?_eq_getElem hkt]
    exact List.all_eq_true.1 ht _ (List.getElem_mem hkt)
theorem zs_bits (l : List Val) (n : Nat) : (zeros (.int .u8 0) (n * 1) 1).map D.v = bytesD (nbits l 0 n) := by
  unfold zeros nbits bytesD
  rw [Nat.mul_one, List.map_map, List.map_map]
  apply List.map_congr_left
  intro j _
  show D.v ([Value.int .u8 0].getD (j % 1) undef) = U8 (UInt8.ofNat (nb l 0 j 8)).toBitVec
  rw [Nat.mod_one, nb_zero l 0 j (by omega)]; rfl
set_option maxHeartbeats 4000000 in
theorem rput4_c (ts : List UInt8) (l : List Val) (h1 : ts.length ≤ 1099511627776) (h2 : szM l ≤ 1099511627776) (hv : ∀ v ∈ l, inI v) (ht : ∀ v ∈ l, v.t.length ≤ 1099511627776) : Fun Try.prog 16 [rdB ts, rdV l] (· = resA (putM ts l)) := by
  have h3 := szM_ge l
  have h3b := szR_le l
  refine Fun.of Try.func16 rfl (Nat.le_of_ble_eq_true rfl) fun C => ?_
  refine WC.seq fun Fh1_ h1_ => ?_
  refine WC.region ?_
  refine RG.op _ _ rfl rfl (o_assign (.v _) rfl) ?_
  refine RG.op _ _ rfl rfl (o_assign (.v _) rfl) ?_
  refine RG.nil (h1_ _ ?_)
  refine WC.seq fun Fh2_ h2_ => ?_
  refine WC.region ?_
  refine RG.op _ _ rfl rfl (o_call Ty.cal30 (lay_c) trivial (by exact pua rfl)) ?_
  refine RG.op _ _ rfl rfl (o_assign (.mp _ _) rfl) ?_
  refine RG.nil (h2_ _ ?_)
  refine WC.seq fun Fh3_ h3_ => ?_
  refine WC.seq fun Fh4_ h4_ => ?_
  refine WC.region ?_
  refine RG.op _ _ rfl rfl (o_move (.rd _ _) rfl) ?_
  refine RG.op _ _ rfl rfl (o_move (.mp _ _) rfl) ?_
  refine RG.op _ _ rfl rfl (o_call Ty.cal31 (typed_c _ (by first | omega | exact ubyte _ | (simp only [LS, nbits_len] <;> omega))) ⟨.inl rfl, .inl rfl, trivial⟩ (by exact pua rfl)) ?_
  refine RG.op _ _ rfl rfl (o_not rfl) ?_
  refine RG.op _ _ rfl rfl (o_move (.v _) rfl) ?_
  refine RG.opg1 _ _ _ _ _ rfl rfl rfl rfl rfl (fun hb => o_move (.rd _ _) rfl) ?_
  refine RG.opg1 _ _ _ _ _ rfl rfl rfl rfl rfl (fun hb => o_move (.rd _ _) rfl) ?_
  refine RG.opg1 _ _ _ _ _ rfl rfl rfl rfl rfl (fun hb => o_call Ty.cal32 (fits_c _ _ (by first | omega | exact ubyte _ | (have hb' := hb; simp only [CN] at hb'; omega) | (simp only [LS, nbits_len] <;> omega) | (have hb' := hb; simp only [CN] at hb'; simp only [LS, nbits_len]; omega)) (by first | omega | exact ubyte _ | (have hb' := hb; simp only [CN] at hb'; omega) | (simp only [LS, nbits_len] <;> omega) | (have hb' := hb; simp only [CN] at hb'; simp only [LS, nbits_len]; omega))) ⟨.inl (gdT hb), .inl (gdT hb), trivial⟩ (by exact pua rfl)) ?_
  refine RG.opg1 _ _ _ _ _ rfl rfl rfl rfl rfl (fun hb => o_not (gdT hb)) ?_
  refine RG.op _ _ rfl rfl (o_or _ _ rfl rfl rfl) ?_
  refine RG.nil (h4_ _ ?_)
  refine WC.cond _ rfl (fun c2 => ?_) (fun c2 => ?_)
  ·
    have p2 := c2
    try simp only [CN] at p2
    refine WC.seq fun Fh5_ h5_ => ?_
    refine WC.region ?_
    refine RG.op _ _ rfl rfl (o_assign (.v _) rfl) ?_
    refine RG.op _ _ rfl rfl (o_assign (.v _) rfl) ?_
    refine RG.nil (h5_ _ ?_)
    refine WC.ret ?_
    exact Ends.r2 rfl (.tmp _ (.v _) rfl) (.tmp _ (.v _) rfl) .nilr (.v _) (by have e : (ts.all tyB && rowM ts l) = false := (by rcases p2 with h | h <;> rw [h] <;> simp); show _ = resA (putM ts l); unfold putM; rw [e]; rfl)
  ·
    have p2 := c2
    try simp only [CN] at p2
    have hty : ts.all tyB = true ∧ rowM ts l = true := p2
    refine WC.skip (h3_ _ ?_)
    refine WC.seq fun Fh6_ h6_ => ?_
    refine WC.region ?_
    refine RG.op _ _ rfl rfl (o_move (.rd _ _) rfl) ?_
    refine RG.op _ _ rfl rfl (o_len_rd rfl Try.underlying23) ?_
    refine RG.op _ _ rfl rfl (o_call Ty.cal33 (nulls_c _ (by first | omega | exact ubyte _ | (simp only [LS, nbits_len] <;> omega))) ⟨.inl rfl, trivial⟩ (by exact pua rfl)) ?_
    refine RG.op _ _ rfl rfl (o_move (.rd _ _) rfl) ?_
    refine RG.op _ _ rfl rfl (o_len_rd rfl Try.underlying23) ?_
    refine RG.op _ _ rfl rfl (o_call Ty.cal33 (nulls_c _ (by first | omega | exact ubyte _ | (simp only [LS, nbits_len] <;> omega))) ⟨.inl rfl, trivial⟩ (by exact pua rfl)) ?_
    refine RG.op _ _ rfl rfl (o_move (.rd _ _) rfl) ?_
    refine RG.op _ _ rfl rfl (o_len_rd rfl Try.underlying23) ?_
    refine RG.op _ _ rfl rfl (o_mul rfl rfl (by first | omega | exact ubyte _ | (simp only [LS, nbits_len] <;> omega)) (by first | omega | exact ubyte _ | (simp only [LS, nbits_len] <;> omega))) ?_
    refine RG.op _ _ rfl rfl (o_add rfl rfl (by first | omega | exact ubyte _ | (simp only [LS, nbits_len] <;> omega)) (by first | omega | exact ubyte _ | (simp only [LS, nbits_len] <;> omega))) ?_
    refine RG.op _ _ rfl rfl (o_makeT (nm l) (nm l) (nm l + 4 * l.length) rfl rfl Try.underlying22 Ty.inf5 rfl rfl (by unfold nm; omega) (by unfold nm; omega) (by omega) (by unfold nm; omega) (by unfold nm; omega)) ?_
    refine RG.op _ _ rfl rfl (o_assign (.own _ _ _ _ _) rfl) ?_
    refine RG.nil (h6_ _ ?_)
    refine WC.seq fun Fh7_ h7_ => ?_
    refine WC.seq fun Fh8_ h8_ => ?_
    refine WC.region ?_
    refine RG.op _ _ rfl rfl (o_move (.rd _ _) rfl) ?_
    refine RG.op _ _ rfl rfl (o_len_rd rfl Try.underlying23) ?_
    refine RG.op _ _ rfl rfl (o_move (.v _) rfl) ?_
    refine RG.nil (h8_ _ ?_)
    refine WC.block ?_
    refine WC.loopU [7, 8, 9, 34, 35, 36, 37, 38, 39, 40, 41, 42, 43, 44, 45, 46, 47, 48, 49, 50, 51, 52, 53, 54, 55, 56, 57, 58, 59, 60, 61] (fun (k : Nat) => [(34, I64 ((k : Nat) : Int)), (7, ow 0 (nbits l k (nm l) ++ (l.take k).flatMap oneR).length 1)]) (fun (k : Nat) => [(0, tb 5 (nbits l k (nm l) ++ (l.take k).flatMap oneR).length (bytesD (nbits l k (nm l) ++ (l.take k).flatMap oneR)))]) (fun (k : Nat) => k ≤ l.length) (fun (k : Nat) => l.length - k) 0 (by first | omega | exact ubyte _ | (simp only [LS, nbits_len] <;> omega)) ?lpa9_ ?lpb10_
    case lpa9_ =>
      exact .mk' ⟨⟨rfl, .v _⟩, ⟨ow_eq (by simp [nbits_len]), (by first | exact .own _ _ _ _ _ (Nat.le_refl _) | exact .ptr _ _ _ (Nat.le_refl _) | exact .omp _ _ (Nat.le_refl _))⟩, trivial⟩ (same_refl _ _) (congrArg (fun c => [c]) (tb_eq (by simp [nbits_len]) (by rw [zs_bits l]; simp))) (by repeat (first | exact trivial | refine And.intro (Nat.le_refl _) ?_ | refine And.intro trivial ?_ | refine And.intro (by show _ ≤ _; (first | omega | (simp only [LS, nbits_len] <;> omega))) ?_)) (by repeat (first | exact trivial | refine And.intro (okp (by repeat (first | exact pu_bytes _ | exact pu_nil | exact pu_vs rfl | exact pu_map (fun _ => .v _) _ | exact pu_vals _ | refine pu_app ?_ ?_ | refine pu_cons (by exact pu_of rfl) ?_))) ?_))
    case lpb10_ =>
      rintro k hI
      have h4 := Nat.le_trans (ones_szR (l := l.take k) (fun w hw => hv w (List.mem_of_mem_take hw)) (fun w hw => ht w (List.mem_of_mem_take hw))) (szR_take l k)
      have h7 : (nbits l k (nm l)).length = nm l := nbits_len _ _ _
      have h5 : (nbits l k (nm l) ++ (l.take k).flatMap oneR).length = nm l + ((l.take k).flatMap oneR).length := by rw [List.length_append, nbits_len]
      have h6 : nm l = (l.length + 7) / 8 := rfl
      refine WC.seq fun Fh11_ h11_ => ?_
      refine WC.region ?_
      refine RG.op _ _ rfl rfl (o_ltI rfl rfl) ?_
      refine RG.nil (h11_ _ ?_)
      refine WC.seq fun Fh12_ h12_ => ?_
      refine WC.cond _ rfl (fun c6 => ?_) (fun c6 => ?_)
      ·
        have p6 := c6
        try simp only [CN] at p6
        have hkl : k < l.length := by omega
        have hk8 : k / 8 < nm l := by omega
        refine WC.skip (h12_ _ ?_)
        refine WC.seq fun Fh13_ h13_ => ?_
        refine WC.block ?_
        refine WC.seq fun Fh14_ h14_ => ?_
        refine WC.region ?_
        refine RG.op _ _ rfl rfl (o_move (.v _) rfl) ?_
        refine RG.op _ _ rfl rfl (o_ixn_L k vc_len rfl rfl rfl Try.underlying23 (sz_of Ty.inf37) (by first | omega | exact ubyte _ | (simp only [LS, nbits_len] <;> omega)) (by first | omega | exact ubyte _ | (simp only [LS, nbits_len] <;> omega))) ?_
        refine RG.op _ _ rfl rfl (o_load_adr_L (xs := [_, _, _]) rfl Try.underlying37 rfl (sz_of Ty.inf37) rfl) ?_
        refine RG.op _ _ rfl rfl (o_alloc (z_of Ty.inf37) rfl) ?_
        refine RG.op _ _ rfl rfl (o_assign (.v _) rfl) ?_
        refine RG.op _ _ rfl rfl (o_store (d := (.agg [_, _, _])) rfl rfl rfl rfl (sz_of Ty.inf37) (Nat.le_of_ble_eq_true rfl) rfl) ?_
        refine RG.nil (h14_ _ ?_)
        refine WC.seq fun Fh15_ h15_ => ?_
        refine WC.region ?_
        refine RG.op _ _ rfl rfl (o_fld_ptr rfl Try.underlying37 rfl (sz_of Ty.inf5) (by decide)) ?_
        refine RG.op _ _ rfl rfl (o_load_ptr rfl Try.underlying5 rfl rfl rfl rfl) ?_
        refine RG.op _ _ rfl rfl (o_eqB (b := 0) rfl rfl) ?_
        refine RG.nil (h15_ _ ?_)
        refine WC.cond _ rfl (fun c8 => ?_) (fun c8 => ?_)
        ·
          have p8 := c8
          try simp only [CN] at p8
          refine WC.region ?_
          refine RG.op _ _ rfl rfl (o_move (.own _ _ _ _ _) rfl) ?_
          refine RG.op _ _ rfl rfl (o_move (.v _) rfl) ?_
          refine RG.op _ _ rfl rfl (o_quo rfl rfl (by first | omega | exact ubyte _ | (simp only [LS, nbits_len] <;> omega)) (by first | omega | exact ubyte _ | (simp only [LS, nbits_len] <;> omega)) (by first | omega | exact ubyte _ | (simp only [LS, nbits_len] <;> omega))) ?_
          refine RG.op _ _ rfl rfl (o_ixn_own (k / 8) rfl rfl Try.underlying22 (sz_of Ty.inf5) (by omega) (by omega)) ?_
          refine RG.op _ _ rfl rfl (o_load_ptr (d := B8 (UInt8.ofNat (nb l k (k / 8) 8))) rfl Try.underlying5 rfl rfl rfl (nbits_get hk8 _)) ?_
          refine RG.op _ _ rfl rfl (o_move (.v _) rfl) ?_
          refine RG.op _ _ rfl rfl (o_rem rfl rfl (by first | omega | exact ubyte _ | (simp only [LS, nbits_len] <;> omega)) (by first | omega | exact ubyte _ | (simp only [LS, nbits_len] <;> omega))) ?_
          refine RG.op _ _ rfl rfl (o_i64toU rfl Try.underlying3 Try.underlying59) ?_
          refine RG.op _ _ rfl rfl (o_shl1 rfl rfl (by omega)) ?_
          refine RG.op _ _ rfl rfl (o_orB rfl rfl) ?_
          refine RG.op _ _ rfl rfl (o_ixn_own (k / 8) rfl rfl Try.underlying22 (sz_of Ty.inf5) (by omega) (by omega)) ?_
          refine RG.op _ _ rfl rfl (o_store (d := .v _) rfl rfl rfl rfl (sz_of Ty.inf5) (by show 0 + k / 8 * 1 + 1 ≤ (bytesD _).length; rw [bytesD_len]; omega) rfl) ?_
          refine RG.nil (h13_ _ ?_)
          refine WC.region ?_
          refine RG.op _ _ rfl rfl (o_add rfl rfl (by first | omega | exact ubyte _ | (simp only [LS, nbits_len] <;> omega)) (by first | omega | exact ubyte _ | (simp only [LS, nbits_len] <;> omega))) ?_
          refine RG.op _ _ rfl rfl (o_move (.v _) rfl) ?_
          refine RG.nil (Exists.intro (k + 1) ⟨by first | omega | (simp only [LS, nbits_len] <;> omega), by first | omega | (simp only [LS, nbits_len] <;> omega), ?_⟩)
          exact .mk' ⟨⟨rfl, .v _⟩, ⟨ow_eq (by rw [onesR_step hkl, oneR_null (by simpa using c8)]; simp [nbits_len]), (by first | exact .own _ _ _ _ _ (Nat.le_refl _) | exact .ptr _ _ _ (Nat.le_refl _) | exact .omp _ _ (Nat.le_refl _))⟩, trivial⟩ (by repeat (first | with_reducible exact same_refl _ _ | with_reducible refine same_updO (by with_unfolding_all exact rfl) ?_ | with_reducible refine same_updN ?_ | with_reducible refine same_updL (by with_unfolding_all exact rfl) ?_ | with_reducible refine same_forget (by with_unfolding_all exact rfl) ?_)) (congrArg (fun c => [c]) (tb_eq (by rw [onesR_step hkl, oneR_null (by simpa using c8)]; simp [nbits_len]) (by rw [onesR_step hkl, oneR_null (by simpa using c8), List.append_nil]; exact nbits_put (by rw [← gv_at hkl]; simpa using c8) hk8 _ (by rw [show ((k : Int) % 8 % 18446744073709551616).toNat = k % 8 by omega]; exact or_bit (nb_at l k) (by omega))))) (by repeat (first | exact trivial | refine And.intro (Nat.le_refl _) ?_ | refine And.intro trivial ?_ | refine And.intro (by show _ ≤ _; (first | omega | (simp only [LS, nbits_len] <;> omega))) ?_)) (by repeat (first | exact trivial | refine And.intro (okp (by repeat (first | exact pu_bytes _ | exact pu_nil | exact pu_vs rfl | exact pu_map (fun _ => .v _) _ | exact pu_vals _ | refine pu_app ?_ ?_ | refine pu_cons (by exact pu_of rfl) ?_))) ?_))
        ·
          have p8 := c8
          try simp only [CN] at p8
          have hc : tyB l[k].k = true := kind_at hty.2 hty.1 hkl (by simpa using c8)
          refine WC.region ?_
          refine RG.op _ _ rfl rfl (o_move (.mp _ _) rfl) ?_
          refine RG.op _ _ rfl rfl (o_fld_ptr rfl Try.underlying37 rfl (sz_of Ty.inf5) (by decide)) ?_
          refine RG.op _ _ rfl rfl (o_load_ptr rfl Try.underlying5 rfl rfl rfl rfl) ?_
          refine RG.op _ _ rfl rfl (layGet_c hc rfl rfl) ?_
          refine RG.op _ _ rfl rfl (o_field rfl Try.underlying63 rfl Try.underlying60 rfl rfl) ?_
          refine RG.op _ _ rfl rfl (o_move (.own _ _ _ _ _) rfl) ?_
          refine RG.op _ _ rfl rfl (o_load_ptr_L (xs := [_, _, _]) rfl Try.underlying37 rfl (sz_of Ty.inf37) rfl rfl rfl rfl) ?_
          refine RG.opM _ _ rfl rfl (x_callV (cs := []) (ds := [ow 0 (nbits l k (nm l) ++ (l.take k).flatMap oneR).length 1, VD l[k]]) (.inr ⟨congrArg D.v (lpv_eq hc), rfl⟩) (cal_lpf _) (FunM.frame (ds := [ow 0 (nbits l k (nm l) ++ (l.take k).flatMap oneR).length 1, VD l[k]]) [0] [_] [_] [] (pone_c _ _ rfl hc (by first | omega | exact ubyte _ | (simp only [LS, nbits_len] <;> omega)) (hv _ (List.getElem_mem hkl)) (ht _ (List.getElem_mem hkl))) (by decide) ⟨rfl, trivial⟩ ⟨.pure (by repeat (first | exact pu_bytes _ | exact pu_nil | exact pu_vs rfl | exact pu_map (fun _ => .v _) _ | exact pu_vals _ | refine pu_app ?_ ?_ | refine pu_cons (by exact pu_of rfl) ?_)), trivial⟩ ⟨.own _ _ _ _ _ rfl, .pure _ (by exact pu_of rfl), trivial⟩ rfl ⟨.pure (by repeat (first | exact pu_bytes _ | exact pu_nil | exact pu_vs rfl | exact pu_map (fun _ => .v _) _ | exact pu_vals _ | refine pu_app ?_ ?_ | refine pu_cons (by exact pu_of rfl) ?_)), trivial⟩ (.own _ _ _ _ _ rfl) rfl) ⟨.inl rfl, .inl rfl, trivial⟩) ?_
          refine RG.op _ _ rfl rfl (o_assign (.own _ _ _ _ _) rfl) ?_
          refine RG.nil (h13_ _ ?_)
          refine WC.region ?_
          refine RG.op _ _ rfl rfl (o_add rfl rfl (by first | omega | exact ubyte _ | (simp only [LS, nbits_len] <;> omega)) (by first | omega | exact ubyte _ | (simp only [LS, nbits_len] <;> omega))) ?_
          refine RG.op _ _ rfl rfl (o_move (.v _) rfl) ?_
          refine RG.nil (Exists.intro (k + 1) ⟨by first | omega | (simp only [LS, nbits_len] <;> omega), by first | omega | (simp only [LS, nbits_len] <;> omega), ?_⟩)
          exact .mk' ⟨⟨rfl, .v _⟩, ⟨ow_eq (by rw [onesR_step hkl]; simp [nbits_len]; omega), (by first | exact .own _ _ _ _ _ (Nat.le_refl _) | exact .ptr _ _ _ (Nat.le_refl _) | exact .omp _ _ (Nat.le_refl _))⟩, trivial⟩ (by repeat (first | with_reducible exact same_refl _ _ | with_reducible refine same_updO (by with_unfolding_all exact rfl) ?_ | with_reducible refine same_updN ?_ | with_reducible refine same_updL (by with_unfolding_all exact rfl) ?_ | with_reducible refine same_forget (by with_unfolding_all exact rfl) ?_)) (congrArg (fun c => [c]) (tb_eq (by rw [onesR_step hkl]; simp [nbits_len]; omega) (by rw [onesR_step hkl, nbits_same (by rw [← gv_at hkl]; simpa using c8), List.append_assoc]))) (by repeat (first | exact trivial | refine And.intro (Nat.le_refl _) ?_ | refine And.intro trivial ?_ | refine And.intro (by show _ ≤ _; (first | omega | (simp only [LS, nbits_len] <;> omega))) ?_)) (by repeat (first | exact trivial | refine And.intro (okp (by repeat (first | exact pu_bytes _ | exact pu_nil | exact pu_vs rfl | exact pu_map (fun _ => .v _) _ | exact pu_vals _ | refine pu_app ?_ ?_ | refine pu_cons (by exact pu_of rfl) ?_))) ?_))
      ·
        have p6 := c6
        try simp only [CN] at p6
        refine WC.exit (h7_ _ ?_)
        refine WC.seq fun Fh16_ h16_ => ?_
        refine WC.region ?_
        refine RG.op _ _ rfl rfl (o_move (.own _ _ _ _ _) rfl) ?_
        refine RG.op _ _ rfl rfl (o_assign (.own _ _ _ _ _) rfl) ?_
        refine RG.op _ _ rfl rfl (o_assign (.v _) rfl) ?_
        refine RG.nil (h16_ _ ?_)
        refine WC.ret ?_
        exact Ends.r2 rfl (.tmp _ (.own _ _ _ _ _) rfl) (.tmp _ (.v _) rfl) (.tb rfl (by repeat (first | exact pu_bytes _ | exact pu_nil | exact pu_vs rfl | exact pu_map (fun _ => .v _) _ | exact pu_vals _ | refine pu_app ?_ ?_ | refine pu_cons (by exact pu_of rfl) ?_))) (.v _) (by have e : k = l.length := (by omega); subst e; show _ = resA (putM ts l); unfold putM; rw [hty.1, hty.2]; rw [List.take_length]; rfl)
set_option maxHeartbeats 4000000 in
theorem rput4r_c (ts : List UInt8) (l : List Val) (h1 : ts.length ≤ 1099511627776) (h2 : szM l ≤ 1099511627776) (hv : ∀ v ∈ l, inI v) (ht : ∀ v ∈ l, v.t.length ≤ 1099511627776) : Fun Try.prog 17 [rdB ts, rdV l] (· = resA (putM ts l)) := by
  have h3 := szM_ge l
  have h3b := szR_le l
  refine Fun.of Try.func17 rfl (Nat.le_of_ble_eq_true rfl) fun C => ?_
  refine WC.seq fun Fh1_ h1_ => ?_
  refine WC.region ?_
  refine RG.op _ _ rfl rfl (o_assign (.v _) rfl) ?_
  refine RG.op _ _ rfl rfl (o_assign (.v _) rfl) ?_
  refine RG.nil (h1_ _ ?_)
  refine WC.seq fun Fh2_ h2_ => ?_
  refine WC.seq fun Fh3_ h3_ => ?_
  refine WC.region ?_
  refine RG.op _ _ rfl rfl (o_move (.rd _ _) rfl) ?_
  refine RG.op _ _ rfl rfl (o_call Ty.cal22 (rtypes_c _ (by first | omega | exact ubyte _ | (simp only [LS, nbits_len] <;> omega))) ⟨.inl rfl, trivial⟩ (by exact pua rfl)) ?_
  refine RG.op _ _ rfl rfl (o_not rfl) ?_
  refine RG.op _ _ rfl rfl (o_move (.v _) rfl) ?_
  refine RG.opg1 _ _ _ _ _ rfl rfl rfl rfl rfl (fun hb => o_move (.rd _ _) rfl) ?_
  refine RG.opg1 _ _ _ _ _ rfl rfl rfl rfl rfl (fun hb => o_move (.rd _ _) rfl) ?_
  refine RG.opg1 _ _ _ _ _ rfl rfl rfl rfl rfl (fun hb => o_call Ty.cal23 (rrow_c _ _ (by first | omega | exact ubyte _ | (have hb' := hb; simp only [CN] at hb'; omega) | (simp only [LS, nbits_len] <;> omega) | (have hb' := hb; simp only [CN] at hb'; simp only [LS, nbits_len]; omega)) (by first | omega | exact ubyte _ | (have hb' := hb; simp only [CN] at hb'; omega) | (simp only [LS, nbits_len] <;> omega) | (have hb' := hb; simp only [CN] at hb'; simp only [LS, nbits_len]; omega))) ⟨.inl (gdT hb), .inl (gdT hb), trivial⟩ (by exact pua rfl)) ?_
  refine RG.opg1 _ _ _ _ _ rfl rfl rfl rfl rfl (fun hb => o_not (gdT hb)) ?_
  refine RG.op _ _ rfl rfl (o_or _ _ rfl rfl rfl) ?_
  refine RG.nil (h3_ _ ?_)
  refine WC.cond _ rfl (fun c1 => ?_) (fun c1 => ?_)
  ·
    have p1 := c1
    try simp only [CN] at p1
    refine WC.seq fun Fh4_ h4_ => ?_
    refine WC.region ?_
    refine RG.op _ _ rfl rfl (o_assign (.v _) rfl) ?_
    refine RG.op _ _ rfl rfl (o_assign (.v _) rfl) ?_
    refine RG.nil (h4_ _ ?_)
    refine WC.ret ?_
    exact Ends.r2 rfl (.tmp _ (.v _) rfl) (.tmp _ (.v _) rfl) .nilr (.v _) (by have e : (ts.all tyB && rowM ts l) = false := (by rcases p1 with h | h <;> rw [h] <;> simp); show _ = resA (putM ts l); unfold putM; rw [e]; rfl)
  ·
    have p1 := c1
    try simp only [CN] at p1
    have hty : ts.all tyB = true ∧ rowM ts l = true := p1
    refine WC.skip (h2_ _ ?_)
    refine WC.seq fun Fh5_ h5_ => ?_
    refine WC.region ?_
    refine RG.op _ _ rfl rfl (o_nil 5 1) ?_
    refine RG.nil (h5_ _ ?_)
    refine WC.seq fun Fh6_ h6_ => ?_
    refine WC.seq fun Fh7_ h7_ => ?_
    refine WC.region ?_
    refine RG.op _ _ rfl rfl (o_assign (.v _) rfl) ?_
    refine RG.nil (h7_ _ ?_)
    refine WC.block ?_
    refine WC.loopU [6, 7, 18, 19, 20, 21, 22, 23, 24, 25, 26, 27, 28, 29, 30, 31, 32, 33, 34, 35, 36, 37, 38, 39, 40, 41, 42, 43, 44, 45, 46, 47, 48] (fun (k : Nat) => [(7, I64 ((k : Nat) : Int)), (6, ow 0 ((k + 7) / 8) 1)]) (fun (k : Nat) => [(0, tb 5 ((k + 7) / 8) (bytesD (nbits l k ((k + 7) / 8))))]) (fun (k : Nat) => k ≤ l.length) (fun (k : Nat) => l.length - k) 0 (by first | omega | exact ubyte _ | (simp only [LS, nbits_len] <;> omega)) ?lpa8_ ?lpb9_
    case lpa8_ =>
      exact .mk' ⟨⟨rfl, .v _⟩, ⟨rfl, (by first | exact .own _ _ _ _ _ (Nat.le_refl _) | exact .ptr _ _ _ (Nat.le_refl _) | exact .omp _ _ (Nat.le_refl _))⟩, trivial⟩ (same_refl _ _) (rfl) (by repeat (first | exact trivial | refine And.intro (Nat.le_refl _) ?_ | refine And.intro trivial ?_ | refine And.intro (by show _ ≤ _; (first | omega | (simp only [LS, nbits_len] <;> omega))) ?_)) (by repeat (first | exact trivial | refine And.intro (okp (by repeat (first | exact pu_bytes _ | exact pu_nil | exact pu_vs rfl | exact pu_map (fun _ => .v _) _ | exact pu_vals _ | refine pu_app ?_ ?_ | refine pu_cons (by exact pu_of rfl) ?_))) ?_))
    case lpb9_ =>
      rintro k hI
      have h7 : (nbits l k ((k + 7) / 8)).length = (k + 7) / 8 := nbits_len _ _ _
      refine WC.seq fun Fh10_ h10_ => ?_
      refine WC.seq fun Fh11_ h11_ => ?_
      refine WC.region ?_
      refine RG.op _ _ rfl rfl (o_move (.v _) rfl) ?_
      refine RG.op _ _ rfl rfl (o_move (.rd _ _) rfl) ?_
      refine RG.op _ _ rfl rfl (o_len_rd rfl Try.underlying23) ?_
      refine RG.op _ _ rfl rfl (o_ltI rfl rfl) ?_
      refine RG.nil (h11_ _ ?_)
      refine WC.cond _ rfl (fun c5 => ?_) (fun c5 => ?_)
      ·
        have p5 := c5
        try simp only [CN] at p5
        have hkl : k < l.length := by omega
        refine WC.skip (h10_ _ ?_)
        refine WC.seq fun Fh12_ h12_ => ?_
        refine WC.block ?_
        refine WC.joinU [6, 24, 25, 26, 27, 28, 29] (fun (u : Unit) => [(7, I64 ((k : Nat) : Int)), (6, ow 0 (k / 8 + 1) 1)]) (fun (u : Unit) => [(0, tb 5 (k / 8 + 1) (bytesD (nbits l k (k / 8 + 1))))]) (fun (u : Unit) => True) ?_ ?_
        ·
          refine WC.seq fun Fh13_ h13_ => ?_
          refine WC.region ?_
          refine RG.op _ _ rfl rfl (o_move (.v _) rfl) ?_
          refine RG.op _ _ rfl rfl (o_rem rfl rfl (by first | omega | exact ubyte _ | (simp only [LS, nbits_len] <;> omega)) (by first | omega | exact ubyte _ | (simp only [LS, nbits_len] <;> omega))) ?_
          refine RG.op _ _ rfl rfl (o_eqI rfl rfl) ?_
          refine RG.nil (h13_ _ ?_)
          refine WC.cond _ rfl (fun c7 => ?_) (fun c7 => ?_)
          ·
            have p7 := c7
            try simp only [CN] at p7
            have p7 : (k : Int) % 8 = 0 := p7
            refine WC.region ?_
            refine RG.op _ _ rfl rfl (o_move (.own _ _ _ _ _) rfl) ?_
            refine RG.op _ _ rfl rfl (o_litP (cs := [(B8 0)]) Try.underlying22 Ty.inf5 rfl rfl rfl rfl (by repeat (first | exact pu_bytes _ | exact pu_nil | exact pu_vs rfl | exact pu_map (fun _ => .v _) _ | exact pu_vals _ | refine pu_app ?_ ?_ | refine pu_cons (by exact pu_of rfl) ?_))) ?_
            refine RG.op _ _ rfl rfl (o_appT (Elem.of Try.underlying22 Ty.inf5 rfl (by decide)) rfl rfl rfl (by first | omega | exact ubyte _ | (simp only [LS, nbits_len] <;> omega)) (by first | omega | exact ubyte _ | (simp only [LS, nbits_len] <;> omega)) (by repeat (first | exact bytesD_one _ | exact one_nil | exact one_map (fun _ => rfl) _ | exact one_vals _ | refine one_app ?_ ?_ | refine one_cons rfl ?_)) (by first | omega | exact ubyte _ | (simp only [LS, nbits_len] <;> omega)) (by first | omega | exact ubyte _ | (simp only [LS, nbits_len] <;> omega))) ?_
            refine RG.op _ _ rfl rfl (o_assign (.own _ _ _ _ _) rfl) ?_
            refine RG.nil (Exists.intro (()) ⟨by first | omega | (simp only [LS, nbits_len] <;> omega), ?_⟩)
            exact .mk' ⟨⟨rfl, .v _⟩, ⟨ow_eq (by omega), (by first | exact .own _ _ _ _ _ (Nat.le_refl _) | exact .ptr _ _ _ (Nat.le_refl _) | exact .omp _ _ (Nat.le_refl _))⟩, trivial⟩ (by repeat (first | with_reducible exact same_refl _ _ | with_reducible refine same_updO (by with_unfolding_all exact rfl) ?_ | with_reducible refine same_updN ?_ | with_reducible refine same_updL (by with_unfolding_all exact rfl) ?_ | with_reducible refine same_forget (by with_unfolding_all exact rfl) ?_)) (congrArg (fun c => [c]) (tb_eq (by omega) (nbits_new (by omega)))) (by repeat (first | exact trivial | refine And.intro (Nat.le_refl _) ?_ | refine And.intro trivial ?_ | refine And.intro (by show _ ≤ _; (first | omega | (simp only [LS, nbits_len] <;> omega))) ?_)) (by repeat (first | exact trivial | refine And.intro (okp (by repeat (first | exact pu_bytes _ | exact pu_nil | exact pu_vs rfl | exact pu_map (fun _ => .v _) _ | exact pu_vals _ | refine pu_app ?_ ?_ | refine pu_cons (by exact pu_of rfl) ?_))) ?_))
          ·
            have p7 := c7
            try simp only [CN] at p7
            have p7 : ¬ (k : Int) % 8 = 0 := p7
            refine WC.skip (Exists.intro (()) ⟨by first | omega | (simp only [LS, nbits_len] <;> omega), ?_⟩)
            exact .mk' ⟨⟨rfl, .v _⟩, ⟨ow_eq (by omega), (by first | exact .own _ _ _ _ _ (Nat.le_refl _) | exact .ptr _ _ _ (Nat.le_refl _) | exact .omp _ _ (Nat.le_refl _))⟩, trivial⟩ (by repeat (first | with_reducible exact same_refl _ _ | with_reducible refine same_updO (by with_unfolding_all exact rfl) ?_ | with_reducible refine same_updN ?_ | with_reducible refine same_updL (by with_unfolding_all exact rfl) ?_ | with_reducible refine same_forget (by with_unfolding_all exact rfl) ?_)) (congrArg (fun c => [c]) (tb_eq (by omega) (by rw [show (k + 7) / 8 = k / 8 + 1 by omega]))) (by repeat (first | exact trivial | refine And.intro (Nat.le_refl _) ?_ | refine And.intro trivial ?_ | refine And.intro (by show _ ≤ _; (first | omega | (simp only [LS, nbits_len] <;> omega))) ?_)) (by repeat (first | exact trivial | refine And.intro (okp (by repeat (first | exact pu_bytes _ | exact pu_nil | exact pu_vs rfl | exact pu_map (fun _ => .v _) _ | exact pu_vals _ | refine pu_app ?_ ?_ | refine pu_cons (by exact pu_of rfl) ?_))) ?_))
        ·
          rintro u hI
          have h8 : (nbits l k (k / 8 + 1)).length = k / 8 + 1 := nbits_len _ _ _
          refine WC.seq fun Fh14_ h14_ => ?_
          refine WC.region ?_
          refine RG.op _ _ rfl rfl (o_move (.rd _ _) rfl) ?_
          refine RG.op _ _ rfl rfl (o_move (.v _) rfl) ?_
          refine RG.op _ _ rfl rfl (o_ixn_L k vc_len rfl rfl rfl Try.underlying23 (sz_of Ty.inf37) (by first | omega | exact ubyte _ | (simp only [LS, nbits_len] <;> omega)) (by first | omega | exact ubyte _ | (simp only [LS, nbits_len] <;> omega))) ?_
          refine RG.op _ _ rfl rfl (o_fld_adr rfl Try.underlying37 rfl (sz_of Ty.inf5) (by decide)) ?_
          refine RG.op _ _ rfl rfl (o_load_adr rfl Try.underlying5 rfl rfl) ?_
          refine RG.op _ _ rfl rfl (o_eqB (b := 0) rfl rfl) ?_
          refine RG.nil (h14_ _ ?_)
          refine WC.cond _ rfl (fun c9 => ?_) (fun c9 => ?_)
          ·
            have p9 := c9
            try simp only [CN] at p9
            refine WC.drawn2 (by kernel_rfl) ?_
            refine PG.op _ rfl rfl rfl (fun _ _ => o_move (.own _ _ _ _ _) rfl) ?_
            refine PG.op _ rfl rfl rfl (fun _ _ => o_move (.v _) rfl) ?_
            refine PG.op _ rfl rfl rfl (fun _ _ => o_quo rfl rfl (by first | omega | exact ubyte _ | (simp only [LS, nbits_len] <;> omega)) (by first | omega | exact ubyte _ | (simp only [LS, nbits_len] <;> omega)) (by first | omega | exact ubyte _ | (simp only [LS, nbits_len] <;> omega))) ?_
            refine PG.op _ rfl rfl rfl (fun _ _ => o_move (.own _ _ _ _ _) rfl) ?_
            refine PG.op _ rfl rfl rfl (fun _ _ => o_move (.v _) rfl) ?_
            refine PG.op _ rfl rfl rfl (fun _ _ => o_quo rfl rfl (by first | omega | exact ubyte _ | (simp only [LS, nbits_len] <;> omega)) (by first | omega | exact ubyte _ | (simp only [LS, nbits_len] <;> omega)) (by first | omega | exact ubyte _ | (simp only [LS, nbits_len] <;> omega))) ?_
            refine PG.op _ rfl rfl rfl (fun _ _ => o_ixn_own (k / 8) rfl rfl Try.underlying22 (sz_of Ty.inf5) (by omega) (by omega)) ?_
            refine PG.opm _ _ rfl rfl rfl (o_load_ptr (d := B8 (UInt8.ofNat (nb l k (k / 8) 8))) rfl Try.underlying5 rfl rfl rfl (nbits_get1 (by omega))) ?_
            refine PG.op _ rfl rfl rfl (fun _ _ => o_move (.v _) rfl) ?_
            refine PG.op _ rfl rfl rfl (fun _ _ => (o_rem (b := 8) rfl rfl (by omega) (by omega)).cast (congrArg I64 (show (k : Int) % 8 = ((k % 8 : Nat) : Int) by omega))) ?_
            refine PG.op _ rfl rfl rfl (fun _ _ => o_shl1I (n := k % 8) rfl rfl (by omega)) ?_
            refine PG.op _ rfl rfl rfl (fun _ _ => o_addB rfl rfl) ?_
            refine PG.op _ rfl rfl rfl (fun _ _ => o_ixn_own (k / 8) rfl rfl Try.underlying22 (sz_of Ty.inf5) (by omega) (by omega)) ?_
            refine PG.opm _ _ rfl rfl rfl (o_store (d := .v _) rfl rfl rfl rfl (sz_of Ty.inf5) (by show 0 + k / 8 * 1 + 1 ≤ (bytesD _).length; rw [bytesD_len]; omega) rfl) ?_
            refine PG.nil ⟨by kernel_rfl, trivial, (h12_ _ ?_)⟩
            refine WC.region ?_
            refine RG.op _ _ rfl rfl (o_move (.v _) rfl) ?_
            refine RG.op _ _ rfl rfl (o_add rfl rfl (by first | omega | exact ubyte _ | (simp only [LS, nbits_len] <;> omega)) (by first | omega | exact ubyte _ | (simp only [LS, nbits_len] <;> omega))) ?_
            refine RG.op _ _ rfl rfl (o_assign (.v _) rfl) ?_
            refine RG.nil (Exists.intro (k + 1) ⟨by first | omega | (simp only [LS, nbits_len] <;> omega), by first | omega | (simp only [LS, nbits_len] <;> omega), ?_⟩)
            exact .mk' ⟨⟨rfl, .v _⟩, ⟨ow_eq (by omega), (by first | exact .own _ _ _ _ _ (Nat.le_refl _) | exact .ptr _ _ _ (Nat.le_refl _) | exact .omp _ _ (Nat.le_refl _))⟩, trivial⟩ (by repeat (first | with_reducible exact same_refl _ _ | with_reducible refine same_updO (by with_unfolding_all exact rfl) ?_ | with_reducible refine same_updN ?_ | with_reducible refine same_updL (by with_unfolding_all exact rfl) ?_ | with_reducible refine same_forget (by with_unfolding_all exact rfl) ?_)) (congrArg (fun c => [c]) (tb_eq (show k / 8 + 1 = (k + 1 + 7) / 8 by omega) (by rw [show (k + 1 + 7) / 8 = k / 8 + 1 by omega]; exact nbits_put1 (by rw [← gv_at hkl]; simpa using c9) (by omega) add_bit))) (by repeat (first | exact trivial | refine And.intro (Nat.le_refl _) ?_ | refine And.intro trivial ?_ | refine And.intro (by show _ ≤ _; (first | omega | (simp only [LS, nbits_len] <;> omega))) ?_)) (by repeat (first | exact trivial | refine And.intro (okp (by repeat (first | exact pu_bytes _ | exact pu_nil | exact pu_vs rfl | exact pu_map (fun _ => .v _) _ | exact pu_vals _ | refine pu_app ?_ ?_ | refine pu_cons (by exact pu_of rfl) ?_))) ?_))
          ·
            have p9 := c9
            try simp only [CN] at p9
            refine WC.skip (h12_ _ ?_)
            refine WC.region ?_
            refine RG.op _ _ rfl rfl (o_move (.v _) rfl) ?_
            refine RG.op _ _ rfl rfl (o_add rfl rfl (by first | omega | exact ubyte _ | (simp only [LS, nbits_len] <;> omega)) (by first | omega | exact ubyte _ | (simp only [LS, nbits_len] <;> omega))) ?_
            refine RG.op _ _ rfl rfl (o_assign (.v _) rfl) ?_
            refine RG.nil (Exists.intro (k + 1) ⟨by first | omega | (simp only [LS, nbits_len] <;> omega), by first | omega | (simp only [LS, nbits_len] <;> omega), ?_⟩)
            exact .mk' ⟨⟨rfl, .v _⟩, ⟨ow_eq (by omega), (by first | exact .own _ _ _ _ _ (Nat.le_refl _) | exact .ptr _ _ _ (Nat.le_refl _) | exact .omp _ _ (Nat.le_refl _))⟩, trivial⟩ (by repeat (first | with_reducible exact same_refl _ _ | with_reducible refine same_updO (by with_unfolding_all exact rfl) ?_ | with_reducible refine same_updN ?_ | with_reducible refine same_updL (by with_unfolding_all exact rfl) ?_ | with_reducible refine same_forget (by with_unfolding_all exact rfl) ?_)) (congrArg (fun c => [c]) (tb_eq (by omega) (by rw [show (k + 1 + 7) / 8 = k / 8 + 1 by omega, nbits_same (by rw [← gv_at hkl]; simpa using c9)]))) (by repeat (first | exact trivial | refine And.intro (Nat.le_refl _) ?_ | refine And.intro trivial ?_ | refine And.intro (by show _ ≤ _; (first | omega | (simp only [LS, nbits_len] <;> omega))) ?_)) (by repeat (first | exact trivial | refine And.intro (okp (by repeat (first | exact pu_bytes _ | exact pu_nil | exact pu_vs rfl | exact pu_map (fun _ => .v _) _ | exact pu_vals _ | refine pu_app ?_ ?_ | refine pu_cons (by exact pu_of rfl) ?_))) ?_))
      ·
        have p5 := c5
        try simp only [CN] at p5
        have ek : k = l.length := by omega
        subst ek
        have h6 : nm l = (l.length + 7) / 8 := rfl
        refine WC.exit (h6_ _ ?_)
        refine WC.seq fun Fh15_ h15_ => ?_
        refine WC.seq fun Fh16_ h16_ => ?_
        refine WC.region ?_
        refine RG.op _ _ rfl rfl (o_assign (.v _) rfl) ?_
        refine RG.nil (h16_ _ ?_)
        refine WC.block ?_
        refine WC.loopU [6, 8, 49, 50, 51, 52, 53, 54, 55, 56, 57, 58, 59, 60, 61] (fun (k : Nat) => [(8, I64 ((k : Nat) : Int)), (6, ow 0 (nbits l l.length (nm l) ++ (l.take k).flatMap oneR).length 1)]) (fun (k : Nat) => [(0, tb 5 (nbits l l.length (nm l) ++ (l.take k).flatMap oneR).length (bytesD (nbits l l.length (nm l) ++ (l.take k).flatMap oneR)))]) (fun (k : Nat) => k ≤ l.length) (fun (k : Nat) => l.length - k) 0 (by first | omega | exact ubyte _ | (simp only [LS, nbits_len] <;> omega)) ?lpa17_ ?lpb18_
        case lpa17_ =>
          exact .mk' ⟨⟨rfl, .v _⟩, ⟨ow_eq (by simp [nbits_len, nm]), (by first | exact .own _ _ _ _ _ (Nat.le_refl _) | exact .ptr _ _ _ (Nat.le_refl _) | exact .omp _ _ (Nat.le_refl _))⟩, trivial⟩ (same_refl _ _) (congrArg (fun c => [c]) (tb_eq (by simp [nbits_len, nm]) (by simp [nm]))) (by repeat (first | exact trivial | refine And.intro (Nat.le_refl _) ?_ | refine And.intro trivial ?_ | refine And.intro (by show _ ≤ _; (first | omega | (simp only [LS, nbits_len] <;> omega))) ?_)) (by repeat (first | exact trivial | refine And.intro (okp (by repeat (first | exact pu_bytes _ | exact pu_nil | exact pu_vs rfl | exact pu_map (fun _ => .v _) _ | exact pu_vals _ | refine pu_app ?_ ?_ | refine pu_cons (by exact pu_of rfl) ?_))) ?_))
        case lpb18_ =>
          rintro k hI
          have h4 := Nat.le_trans (ones_szR (l := l.take k) (fun w hw => hv w (List.mem_of_mem_take hw)) (fun w hw => ht w (List.mem_of_mem_take hw))) (szR_take l k)
          have h7 : (nbits l l.length (nm l)).length = nm l := nbits_len _ _ _
          have h5 : (nbits l l.length (nm l) ++ (l.take k).flatMap oneR).length = nm l + ((l.take k).flatMap oneR).length := by rw [List.length_append, nbits_len]
          have h6 : nm l = (l.length + 7) / 8 := rfl
          refine WC.seq fun Fh19_ h19_ => ?_
          refine WC.seq fun Fh20_ h20_ => ?_
          refine WC.region ?_
          refine RG.op _ _ rfl rfl (o_move (.v _) rfl) ?_
          refine RG.op _ _ rfl rfl (o_move (.rd _ _) rfl) ?_
          refine RG.op _ _ rfl rfl (o_len_rd rfl Try.underlying23) ?_
          refine RG.op _ _ rfl rfl (o_ltI rfl rfl) ?_
          refine RG.nil (h20_ _ ?_)
          refine WC.cond _ rfl (fun c12 => ?_) (fun c12 => ?_)
          ·
            have p12 := c12
            try simp only [CN] at p12
            have hkl : k < l.length := by omega
            have h8 := oneR_len (hv _ (List.getElem_mem hkl)) (ht _ (List.getElem_mem hkl))
            have h9 := ht _ (List.getElem_mem hkl)
            refine WC.skip (h19_ _ ?_)
            refine WC.seq fun Fh21_ h21_ => ?_
            refine WC.block ?_
            refine WC.region ?_
            refine RG.op _ _ rfl rfl (o_move (.own _ _ _ _ _) rfl) ?_
            refine RG.op _ _ rfl rfl (o_move (.rd _ _) rfl) ?_
            refine RG.op _ _ rfl rfl (o_move (.v _) rfl) ?_
            refine RG.op _ _ rfl rfl (o_ixn_L k vc_len rfl rfl rfl Try.underlying23 (sz_of Ty.inf37) (by first | omega | exact ubyte _ | (simp only [LS, nbits_len] <;> omega)) (by first | omega | exact ubyte _ | (simp only [LS, nbits_len] <;> omega))) ?_
            refine RG.op _ _ rfl rfl (o_load_adr_L (xs := [_, _, _]) rfl Try.underlying37 rfl (sz_of Ty.inf37) rfl) ?_
            refine RG.op _ _ rfl rfl (o_call Ty.cal34 (rone_m _ (hv _ (List.getElem_mem hkl)) (ht _ (List.getElem_mem hkl))) ⟨.inl rfl, trivial⟩ (by exact pua rfl)) ?_
            refine RG.op _ _ rfl rfl (o_appT (Elem.of Try.underlying22 Ty.inf5 rfl (by decide)) rfl rfl rfl (by first | omega | exact ubyte _ | (simp only [LS, nbits_len] <;> omega)) (by first | omega | exact ubyte _ | (simp only [LS, nbits_len] <;> omega)) (by repeat (first | exact bytesD_one _ | exact one_nil | exact one_map (fun _ => rfl) _ | exact one_vals _ | refine one_app ?_ ?_ | refine one_cons rfl ?_)) (by first | omega | exact ubyte _ | (simp only [LS, nbits_len] <;> omega)) (by first | omega | exact ubyte _ | (simp only [LS, nbits_len] <;> omega))) ?_
            refine RG.op _ _ rfl rfl (o_assign (.own _ _ _ _ _) rfl) ?_
            refine RG.nil (h21_ _ ?_)
            refine WC.region ?_
            refine RG.op _ _ rfl rfl (o_move (.v _) rfl) ?_
            refine RG.op _ _ rfl rfl (o_add rfl rfl (by first | omega | exact ubyte _ | (simp only [LS, nbits_len] <;> omega)) (by first | omega | exact ubyte _ | (simp only [LS, nbits_len] <;> omega))) ?_
            refine RG.op _ _ rfl rfl (o_assign (.v _) rfl) ?_
            refine RG.nil (Exists.intro (k + 1) ⟨by first | omega | (simp only [LS, nbits_len] <;> omega), by first | omega | (simp only [LS, nbits_len] <;> omega), ?_⟩)
            exact .mk' ⟨⟨rfl, .v _⟩, ⟨ow_eq (by rw [onesR_step hkl]; simp [nbits_len]; omega), (by first | exact .own _ _ _ _ _ (Nat.le_refl _) | exact .ptr _ _ _ (Nat.le_refl _) | exact .omp _ _ (Nat.le_refl _))⟩, trivial⟩ (by repeat (first | with_reducible exact same_refl _ _ | with_reducible refine same_updO (by with_unfolding_all exact rfl) ?_ | with_reducible refine same_updN ?_ | with_reducible refine same_updL (by with_unfolding_all exact rfl) ?_ | with_reducible refine same_forget (by with_unfolding_all exact rfl) ?_)) (congrArg (fun c => [c]) (tb_eq (by rw [onesR_step hkl]; simp [nbits_len]; omega) (by rw [onesR_step hkl, ← List.append_assoc]; exact (bytesD_app _ _).symm))) (by repeat (first | exact trivial | refine And.intro (Nat.le_refl _) ?_ | refine And.intro trivial ?_ | refine And.intro (by show _ ≤ _; (first | omega | (simp only [LS, nbits_len] <;> omega))) ?_)) (by repeat (first | exact trivial | refine And.intro (okp (by repeat (first | exact pu_bytes _ | exact pu_nil | exact pu_vs rfl | exact pu_map (fun _ => .v _) _ | exact pu_vals _ | refine pu_app ?_ ?_ | refine pu_cons (by exact pu_of rfl) ?_))) ?_))
          ·
            have p12 := c12
            try simp only [CN] at p12
            refine WC.exit (h15_ _ ?_)
            refine WC.seq fun Fh22_ h22_ => ?_
            refine WC.region ?_
            refine RG.op _ _ rfl rfl (o_move (.own _ _ _ _ _) rfl) ?_
            refine RG.op _ _ rfl rfl (o_assign (.own _ _ _ _ _) rfl) ?_
            refine RG.op _ _ rfl rfl (o_assign (.v _) rfl) ?_
            refine RG.nil (h22_ _ ?_)
            refine WC.ret ?_
            exact Ends.r2 rfl (.tmp _ (.own _ _ _ _ _) rfl) (.tmp _ (.v _) rfl) (.tb rfl (by repeat (first | exact pu_bytes _ | exact pu_nil | exact pu_vs rfl | exact pu_map (fun _ => .v _) _ | exact pu_vals _ | refine pu_app ?_ ?_ | refine pu_cons (by exact pu_of rfl) ?_))) (.v _) (by have e : k = l.length := (by omega); subst e; show _ = resA (putM ts l); unfold putM; rw [hty.1, hty.2]; rw [List.take_length]; rfl)
end Go.Proofs.Ytbdibcpenihpdaa
