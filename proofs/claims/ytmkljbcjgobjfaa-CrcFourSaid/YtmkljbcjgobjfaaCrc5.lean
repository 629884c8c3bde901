/-
  The laws of crc over noughts, over what stands behind, over four bytes: what each hands back. No condition.
-/
import Derived.Test.YtmkljbcjgobjfaaCrc3
namespace Go.Proofs.Ytmkljbcjgobjfaa
open Go.RowKit Go.DL
set_option linter.unusedSimpArgs false

theorem wrapi (n : Nat) (h : n ≤ 65535) : IntKind.i64.wrap (n : Int) = (n : Int) := by
  rw [IntKind.wrap_i64]; omega
theorem rep_bytes (n : Nat) : List.replicate n (D.v (.int .u8 0)) = bytesD (List.replicate n 0) := by simp [bytesD]
theorem Frz.bytes {H : Heap} {id ver n : Nat} {b : Blk} {l : List UInt8} (hb : H[id]? = some (some b)) (hv : b.ver = ver) (hl : b.cs = bytesD l) (hn : l.length = n) : Frz H (.own id ver 0 n 1) (rdB l) := by
  subst hn hv
  refine .own id 0 l.length 1 b (bytesD l) hb (by rw [hl]; omega) fun j c d hc hd => ?_
  rw [hl, Nat.zero_add] at hc
  rw [hc] at hd; cases hd
  obtain ⟨x, _, rfl⟩ := List.mem_map.1 (List.mem_of_getElem? hc)
  exact .v _
def noughts (n : Nat) (l : List UInt8) : List UInt8 := List.replicate n 0 ++ l
theorem noughts_cs (n : Nat) (l : List UInt8) : (List.replicate n (D.v (.int .u8 0))).take (n * 1) ++ bytesD l = bytesD (noughts n l) := by
  rw [List.take_of_length_le (by simp), rep_bytes, noughts, bytesD_app]
theorem noughts_len (n : Nat) (l : List UInt8) : (noughts n l).length = n + l.length := by simp [noughts]
theorem noughts_sum {l : List UInt8} {n m : Nat} (hn : n < 3001) (hm : m < 3001) : ((sumQ (noughts n l) == sumQ (noughts m l)) == (((n + l.length : Nat) : Int) == ((m + l.length : Nat) : Int))) = true := by
  by_cases h : n = m
  · subst h; simp
  · have h1 : ¬ sumQ (noughts n l) = sumQ (noughts m l) := by
      intro e
      unfold sumQ noughts at e
      have := not_inj e
      rw [foldQ_app, foldQ_app] at this
      exact h (noughts_inj (by omega) (by omega) (foldQ_inj _ this))
    rw [beq_eq_false_iff_ne.2 h1, beq_eq_false_iff_ne.2 (show ((n + l.length : Nat) : Int) ≠ ((m + l.length : Nat) : Int) by omega)]; rfl
theorem noughts_c (l : List UInt8) (hl : l.length ≤ 9223372036854775807) (a : Nat) (ha : a ≤ 65535) (b : Nat) (hb : b ≤ 65535) : Fun Try.prog 12 [rdB l, .v (.int .u16 (a : Int)), .v (.int .u16 (b : Int))] (· = .v (.bool true)) := by
  refine Fun.of Try.func12 rfl (Nat.le_of_ble_eq_true rfl) fun C => ?_
  refine WC.seq fun F1 h1 => ?_
  refine WC.region ?_
  refine RG.op _ _ rfl rfl (o_assign (.v _) rfl) ?_
  refine RG.nil (h1 _ ?_)
  refine WC.seq fun Fa hha => ?_
  refine WC.seq fun F2 h2 => ?_
  refine WC.region ?_
  first | refine RG.op _ _ rfl rfl (o_move (.rd _ _) rfl) ?_ | refine RG.op _ _ rfl rfl (o_move (.own _ _ _ _ _) rfl) ?_ | refine RG.op _ _ rfl rfl (o_move (.v _) rfl) ?_
  first | refine RG.op _ _ rfl rfl (o_len_rd rfl Try.underlying22) ?_ | refine RG.op _ _ rfl rfl (o_len_own rfl Try.underlying22) ?_ | refine RG.op _ _ rfl rfl (o_len_v rfl Try.underlying22) ?_
  refine RG.op _ _ rfl rfl (o_bin _ rfl rfl rfl) ?_
  refine RG.nil (h2 _ ?_)
  refine WC.cond _ rfl (fun hc => ?_) (fun hc => ?_)
  ·
    refine WC.seq fun F3 h3 => ?_
    refine WC.region ?_
    refine RG.op _ _ rfl rfl (o_call Ty.cal25 (told_c) (by repeat (first | exact trivial | refine And.intro (Or.inl rfl) ?_ | refine And.intro (Or.inr ⟨rfl, rfl⟩) ?_)) (by repeat constructor)) ?_
    refine RG.op _ _ rfl rfl (o_assign (.v _) rfl) ?_
    refine RG.nil (h3 _ ?_)
    refine WC.ret ?_
    exact Ends.one rfl (.v (.bool true)) (.v _) rfl
  · have hl' := of_decide_eq_false hc
    refine WC.skip (hha _ ?_)
    refine WC.seq fun F4 h4 => ?_
    refine WC.region ?_
    refine RG.op _ _ rfl rfl (o_move (.v _) rfl) ?_
    refine RG.op _ _ rfl rfl ((o_int rfl Try.underlying44 Try.underlying3).cast (v_int (wrapi a ha))) ?_
    refine RG.op _ _ rfl rfl (o_rem rfl rfl (by omega) (by omega)) ?_
    refine RG.op _ _ rfl rfl (o_make (a % 3001) (a % 3001) rfl rfl Try.underlying22 Ty.inf5 rfl rfl rfl (Nat.le_refl _) (by omega) (by omega)) ?_
    first | refine RG.op _ _ rfl rfl (o_move (.rd _ _) rfl) ?_ | refine RG.op _ _ rfl rfl (o_move (.own _ _ _ _ _) rfl) ?_ | refine RG.op _ _ rfl rfl (o_move (.v _) rfl) ?_
    refine RG.op _ _ rfl rfl (o_append_rd (Elem.of Try.underlying22 Ty.inf5 rfl (by decide)) rfl rfl rfl rfl rfl (by (try simp only [bytesD_len, List.length_append, List.length_take, List.length_drop, List.length_replicate, List.length_nil, List.length_cons]); omega) (by (try simp only [bytesD_len, List.length_append, List.length_take, List.length_drop, List.length_replicate, List.length_nil, List.length_cons]); omega) (bytesD_one _) (by (try simp only [bytesD_len, List.length_append, List.length_take, List.length_drop, List.length_replicate, List.length_nil, List.length_cons]); omega) (by (try simp only [bytesD_len, List.length_append, List.length_take, List.length_drop, List.length_replicate, List.length_nil, List.length_cons]); omega)) ?_
    first | refine RG.op _ _ rfl rfl (o_assign (.rd _ _) rfl) ?_ | refine RG.op _ _ rfl rfl (o_assign (.own _ _ _ _ _) rfl) ?_ | refine RG.op _ _ rfl rfl (o_assign (.v _) rfl) ?_
    refine RG.nil (h4 _ ?_)
    refine WC.seq fun F5 h5 => ?_
    refine WC.region ?_
    refine RG.op _ _ rfl rfl (o_move (.v _) rfl) ?_
    refine RG.op _ _ rfl rfl ((o_int rfl Try.underlying44 Try.underlying3).cast (v_int (wrapi b hb))) ?_
    refine RG.op _ _ rfl rfl (o_rem rfl rfl (by omega) (by omega)) ?_
    refine RG.op _ _ rfl rfl (o_make (b % 3001) (b % 3001) rfl rfl Try.underlying22 Ty.inf5 rfl rfl rfl (Nat.le_refl _) (by omega) (by omega)) ?_
    first | refine RG.op _ _ rfl rfl (o_move (.rd _ _) rfl) ?_ | refine RG.op _ _ rfl rfl (o_move (.own _ _ _ _ _) rfl) ?_ | refine RG.op _ _ rfl rfl (o_move (.v _) rfl) ?_
    refine RG.op _ _ rfl rfl (o_append_rd (Elem.of Try.underlying22 Ty.inf5 rfl (by decide)) rfl rfl rfl rfl rfl (by (try simp only [bytesD_len, List.length_append, List.length_take, List.length_drop, List.length_replicate, List.length_nil, List.length_cons]); omega) (by (try simp only [bytesD_len, List.length_append, List.length_take, List.length_drop, List.length_replicate, List.length_nil, List.length_cons]); omega) (bytesD_one _) (by (try simp only [bytesD_len, List.length_append, List.length_take, List.length_drop, List.length_replicate, List.length_nil, List.length_cons]); omega) (by (try simp only [bytesD_len, List.length_append, List.length_take, List.length_drop, List.length_replicate, List.length_nil, List.length_cons]); omega)) ?_
    first | refine RG.op _ _ rfl rfl (o_assign (.rd _ _) rfl) ?_ | refine RG.op _ _ rfl rfl (o_assign (.own _ _ _ _ _) rfl) ?_ | refine RG.op _ _ rfl rfl (o_assign (.v _) rfl) ?_
    refine RG.nil (h5 _ ?_)
    refine WC.seq fun F6 h6 => ?_
    refine WC.region ?_
    first | refine RG.op _ _ rfl rfl (o_move (.rd _ _) rfl) ?_ | refine RG.op _ _ rfl rfl (o_move (.own _ _ _ _ _) rfl) ?_ | refine RG.op _ _ rfl rfl (o_move (.v _) rfl) ?_
    refine RG.op _ _ rfl rfl (o_callB Ty.cal26 (sum_c (noughts (a % 3001) l) (by rw [noughts_len]; omega)) ⟨Frz.bytes rfl rfl (noughts_cs _ _) (noughts_len _ _), trivial⟩ (.v _)) ?_
    first | refine RG.op _ _ rfl rfl (o_move (.rd _ _) rfl) ?_ | refine RG.op _ _ rfl rfl (o_move (.own _ _ _ _ _) rfl) ?_ | refine RG.op _ _ rfl rfl (o_move (.v _) rfl) ?_
    refine RG.op _ _ rfl rfl (o_callB Ty.cal26 (sum_c (noughts (b % 3001) l) (by rw [noughts_len]; omega)) ⟨Frz.bytes rfl rfl (noughts_cs _ _) (noughts_len _ _), trivial⟩ (.v _)) ?_
    refine RG.op _ _ rfl rfl (o_eq32 rfl rfl) ?_
    first | refine RG.op _ _ rfl rfl (o_move (.rd _ _) rfl) ?_ | refine RG.op _ _ rfl rfl (o_move (.own _ _ _ _ _) rfl) ?_ | refine RG.op _ _ rfl rfl (o_move (.v _) rfl) ?_
    first | refine RG.op _ _ rfl rfl (o_len_rd rfl Try.underlying22) ?_ | refine RG.op _ _ rfl rfl (o_len_own rfl Try.underlying22) ?_ | refine RG.op _ _ rfl rfl (o_len_v rfl Try.underlying22) ?_
    first | refine RG.op _ _ rfl rfl (o_move (.rd _ _) rfl) ?_ | refine RG.op _ _ rfl rfl (o_move (.own _ _ _ _ _) rfl) ?_ | refine RG.op _ _ rfl rfl (o_move (.v _) rfl) ?_
    first | refine RG.op _ _ rfl rfl (o_len_rd rfl Try.underlying22) ?_ | refine RG.op _ _ rfl rfl (o_len_own rfl Try.underlying22) ?_ | refine RG.op _ _ rfl rfl (o_len_v rfl Try.underlying22) ?_
    refine RG.op _ _ rfl rfl (o_bin _ rfl rfl rfl) ?_
    refine RG.op _ _ rfl rfl (o_eqb rfl rfl Try.underlying4) ?_
    refine RG.op _ _ rfl rfl (o_move (.v _) rfl) ?_
    refine RG.opg _ _ _ _ _ rfl rfl rfl rfl rfl (fun hb => o_call Ty.cal25 (told_c) (by repeat (first | exact trivial | refine And.intro (Or.inl (by first | exact rfl | exact gd_on hb)) ?_ | refine And.intro (Or.inr ⟨rfl, rfl⟩) ?_)) (by repeat constructor)) ?_
    first | refine RG.op _ _ rfl rfl (o_and _ _ rfl rfl rfl) ?_ | refine RG.op _ _ rfl rfl (o_or _ _ rfl rfl rfl) ?_ | refine RG.op _ _ rfl rfl (o_pick _ _ _ rfl rfl rfl) ?_
    refine RG.op _ _ rfl rfl (o_assign (.v _) rfl) ?_
    refine RG.nil (h6 _ ?_)
    refine WC.ret ?_
    exact Ends.one rfl (.v (.bool true)) (.bool (by rw [noughts_sum (by omega) (by omega)]; rfl)) rfl

/-! ### What stands behind -/
theorem behind_cs (a c : List UInt8) : (([] : List D).take (0 * 1) ++ bytesD a).take ((0 + a.length) * 1) ++ bytesD c = bytesD (a ++ c) := by
  rw [List.take_nil, List.nil_append, Nat.zero_add, Nat.mul_one, ← bytesD_len a, List.take_length, bytesD_app]
theorem behind_len (a c : List UInt8) : (a ++ c).length = 0 + a.length + c.length := by simp
theorem behind_sum (a b c : List UInt8) : ((sumQ a == sumQ b) == (sumQ (a ++ c) == sumQ (b ++ c))) = true := by
  have key : sumQ a = sumQ b ↔ sumQ (a ++ c) = sumQ (b ++ c) := by
    unfold sumQ
    rw [foldQ_app, foldQ_app]
    exact ⟨fun h => by rw [not_inj h], fun h => by rw [foldQ_inj _ (not_inj h)]⟩
  by_cases h : sumQ a = sumQ b
  · rw [key.1 h, h]; simp
  · have h2 : ¬ sumQ (a ++ c) = sumQ (b ++ c) := fun e => h (key.2 e)
    rw [beq_eq_false_iff_ne.2 h, beq_eq_false_iff_ne.2 h2]; rfl
theorem behind_c (a : List UInt8) (ha : a.length ≤ 9223372036854775807) (b : List UInt8) (hb : b.length ≤ 9223372036854775807) (c : List UInt8) (hc : c.length ≤ 9223372036854775807) : Fun Try.prog 11 [rdB a, rdB b, rdB c] (· = .v (.bool true)) := by
  refine Fun.of Try.func11 rfl (Nat.le_of_ble_eq_true rfl) fun C => ?_
  refine WC.seq fun F7 h7 => ?_
  refine WC.region ?_
  refine RG.op _ _ rfl rfl (o_assign (.v _) rfl) ?_
  refine RG.nil (h7 _ ?_)
  refine WC.seq fun Fa hha => ?_
  refine WC.seq fun F8 h8 => ?_
  refine WC.region ?_
  first | refine RG.op _ _ rfl rfl (o_move (.rd _ _) rfl) ?_ | refine RG.op _ _ rfl rfl (o_move (.own _ _ _ _ _) rfl) ?_ | refine RG.op _ _ rfl rfl (o_move (.v _) rfl) ?_
  first | refine RG.op _ _ rfl rfl (o_len_rd rfl Try.underlying22) ?_ | refine RG.op _ _ rfl rfl (o_len_own rfl Try.underlying22) ?_ | refine RG.op _ _ rfl rfl (o_len_v rfl Try.underlying22) ?_
  refine RG.op _ _ rfl rfl (o_bin _ rfl rfl rfl) ?_
  refine RG.op _ _ rfl rfl (o_move (.v _) rfl) ?_
  first | refine RG.opg _ _ _ _ _ rfl rfl rfl rfl rfl (fun hb => o_move (.rd _ _) (by first | exact rfl | exact gd_on hb)) ?_ | refine RG.opg _ _ _ _ _ rfl rfl rfl rfl rfl (fun hb => o_move (.own _ _ _ _ _) (by first | exact rfl | exact gd_on hb)) ?_ | refine RG.opg _ _ _ _ _ rfl rfl rfl rfl rfl (fun hb => o_move (.v _) (by first | exact rfl | exact gd_on hb)) ?_
  first | refine RG.opg _ _ _ _ _ rfl rfl rfl rfl rfl (fun hb => o_len_rd (by first | exact rfl | exact gd_on hb) Try.underlying22) ?_ | refine RG.opg _ _ _ _ _ rfl rfl rfl rfl rfl (fun hb => o_len_own (by first | exact rfl | exact gd_on hb) Try.underlying22) ?_ | refine RG.opg _ _ _ _ _ rfl rfl rfl rfl rfl (fun hb => o_len_v (by first | exact rfl | exact gd_on hb) Try.underlying22) ?_
  refine RG.opg _ _ _ _ _ rfl rfl rfl rfl rfl (fun hb => o_bin _ (by first | exact rfl | exact gd_on hb) (by first | exact rfl | exact gd_on hb) (by first | exact rfl | exact gd_on hb)) ?_
  first | refine RG.op _ _ rfl rfl (o_and _ _ rfl rfl rfl) ?_ | refine RG.op _ _ rfl rfl (o_or _ _ rfl rfl rfl) ?_ | refine RG.op _ _ rfl rfl (o_pick _ _ _ rfl rfl rfl) ?_
  refine RG.op _ _ rfl rfl (o_move (.v _) rfl) ?_
  first | refine RG.opg _ _ _ _ _ rfl rfl rfl rfl rfl (fun hb => o_move (.rd _ _) (by first | exact rfl | exact gd_on hb)) ?_ | refine RG.opg _ _ _ _ _ rfl rfl rfl rfl rfl (fun hb => o_move (.own _ _ _ _ _) (by first | exact rfl | exact gd_on hb)) ?_ | refine RG.opg _ _ _ _ _ rfl rfl rfl rfl rfl (fun hb => o_move (.v _) (by first | exact rfl | exact gd_on hb)) ?_
  first | refine RG.opg _ _ _ _ _ rfl rfl rfl rfl rfl (fun hb => o_len_rd (by first | exact rfl | exact gd_on hb) Try.underlying22) ?_ | refine RG.opg _ _ _ _ _ rfl rfl rfl rfl rfl (fun hb => o_len_own (by first | exact rfl | exact gd_on hb) Try.underlying22) ?_ | refine RG.opg _ _ _ _ _ rfl rfl rfl rfl rfl (fun hb => o_len_v (by first | exact rfl | exact gd_on hb) Try.underlying22) ?_
  refine RG.opg _ _ _ _ _ rfl rfl rfl rfl rfl (fun hb => o_bin _ (by first | exact rfl | exact gd_on hb) (by first | exact rfl | exact gd_on hb) (by first | exact rfl | exact gd_on hb)) ?_
  first | refine RG.op _ _ rfl rfl (o_and _ _ rfl rfl rfl) ?_ | refine RG.op _ _ rfl rfl (o_or _ _ rfl rfl rfl) ?_ | refine RG.op _ _ rfl rfl (o_pick _ _ _ rfl rfl rfl) ?_
  refine RG.nil (h8 _ ?_)
  refine WC.cond _ rfl (fun hd => ?_) (fun hd => ?_)
  ·
    refine WC.seq fun F9 h9 => ?_
    refine WC.region ?_
    refine RG.op _ _ rfl rfl (o_call Ty.cal25 (told_c) (by repeat (first | exact trivial | refine And.intro (Or.inl rfl) ?_ | refine And.intro (Or.inr ⟨rfl, rfl⟩) ?_)) (by repeat constructor)) ?_
    refine RG.op _ _ rfl rfl (o_assign (.v _) rfl) ?_
    refine RG.nil (h9 _ ?_)
    refine WC.ret ?_
    exact Ends.one rfl (.v (.bool true)) (.v _) rfl
  · simp only [Bool.or_eq_false_iff, decide_eq_false_iff_not] at hd
    refine WC.skip (hha _ ?_)
    refine WC.seq fun F10 h10 => ?_
    refine WC.region ?_
    refine RG.op _ _ rfl rfl (o_litO Try.underlying22 Ty.inf5 rfl rfl rfl rfl rfl rfl) ?_
    first | refine RG.op _ _ rfl rfl (o_move (.rd _ _) rfl) ?_ | refine RG.op _ _ rfl rfl (o_move (.own _ _ _ _ _) rfl) ?_ | refine RG.op _ _ rfl rfl (o_move (.v _) rfl) ?_
    refine RG.op _ _ rfl rfl (o_append_rd (Elem.of Try.underlying22 Ty.inf5 rfl (by decide)) rfl rfl rfl rfl rfl (by (try simp only [bytesD_len, List.length_append, List.length_take, List.length_drop, List.length_replicate, List.length_nil, List.length_cons]); omega) (by (try simp only [bytesD_len, List.length_append, List.length_take, List.length_drop, List.length_replicate, List.length_nil, List.length_cons]); omega) (bytesD_one _) (by (try simp only [bytesD_len, List.length_append, List.length_take, List.length_drop, List.length_replicate, List.length_nil, List.length_cons]); omega) (by (try simp only [bytesD_len, List.length_append, List.length_take, List.length_drop, List.length_replicate, List.length_nil, List.length_cons]); omega)) ?_
    first | refine RG.op _ _ rfl rfl (o_move (.rd _ _) rfl) ?_ | refine RG.op _ _ rfl rfl (o_move (.own _ _ _ _ _) rfl) ?_ | refine RG.op _ _ rfl rfl (o_move (.v _) rfl) ?_
    refine RG.op _ _ rfl rfl (o_append_rd (Elem.of Try.underlying22 Ty.inf5 rfl (by decide)) rfl rfl rfl rfl rfl (by (try simp only [bytesD_len, List.length_append, List.length_take, List.length_drop, List.length_replicate, List.length_nil, List.length_cons]); omega) (by (try simp only [bytesD_len, List.length_append, List.length_take, List.length_drop, List.length_replicate, List.length_nil, List.length_cons]); omega) (bytesD_one _) (by (try simp only [bytesD_len, List.length_append, List.length_take, List.length_drop, List.length_replicate, List.length_nil, List.length_cons]); omega) (by (try simp only [bytesD_len, List.length_append, List.length_take, List.length_drop, List.length_replicate, List.length_nil, List.length_cons]); omega)) ?_
    first | refine RG.op _ _ rfl rfl (o_assign (.rd _ _) rfl) ?_ | refine RG.op _ _ rfl rfl (o_assign (.own _ _ _ _ _) rfl) ?_ | refine RG.op _ _ rfl rfl (o_assign (.v _) rfl) ?_
    refine RG.nil (h10 _ ?_)
    refine WC.seq fun F11 h11 => ?_
    refine WC.region ?_
    refine RG.op _ _ rfl rfl (o_litO Try.underlying22 Ty.inf5 rfl rfl rfl rfl rfl rfl) ?_
    first | refine RG.op _ _ rfl rfl (o_move (.rd _ _) rfl) ?_ | refine RG.op _ _ rfl rfl (o_move (.own _ _ _ _ _) rfl) ?_ | refine RG.op _ _ rfl rfl (o_move (.v _) rfl) ?_
    refine RG.op _ _ rfl rfl (o_append_rd (Elem.of Try.underlying22 Ty.inf5 rfl (by decide)) rfl rfl rfl rfl rfl (by (try simp only [bytesD_len, List.length_append, List.length_take, List.length_drop, List.length_replicate, List.length_nil, List.length_cons]); omega) (by (try simp only [bytesD_len, List.length_append, List.length_take, List.length_drop, List.length_replicate, List.length_nil, List.length_cons]); omega) (bytesD_one _) (by (try simp only [bytesD_len, List.length_append, List.length_take, List.length_drop, List.length_replicate, List.length_nil, List.length_cons]); omega) (by (try simp only [bytesD_len, List.length_append, List.length_take, List.length_drop, List.length_replicate, List.length_nil, List.length_cons]); omega)) ?_
    first | refine RG.op _ _ rfl rfl (o_move (.rd _ _) rfl) ?_ | refine RG.op _ _ rfl rfl (o_move (.own _ _ _ _ _) rfl) ?_ | refine RG.op _ _ rfl rfl (o_move (.v _) rfl) ?_
    refine RG.op _ _ rfl rfl (o_append_rd (Elem.of Try.underlying22 Ty.inf5 rfl (by decide)) rfl rfl rfl rfl rfl (by (try simp only [bytesD_len, List.length_append, List.length_take, List.length_drop, List.length_replicate, List.length_nil, List.length_cons]); omega) (by (try simp only [bytesD_len, List.length_append, List.length_take, List.length_drop, List.length_replicate, List.length_nil, List.length_cons]); omega) (bytesD_one _) (by (try simp only [bytesD_len, List.length_append, List.length_take, List.length_drop, List.length_replicate, List.length_nil, List.length_cons]); omega) (by (try simp only [bytesD_len, List.length_append, List.length_take, List.length_drop, List.length_replicate, List.length_nil, List.length_cons]); omega)) ?_
    first | refine RG.op _ _ rfl rfl (o_assign (.rd _ _) rfl) ?_ | refine RG.op _ _ rfl rfl (o_assign (.own _ _ _ _ _) rfl) ?_ | refine RG.op _ _ rfl rfl (o_assign (.v _) rfl) ?_
    refine RG.nil (h11 _ ?_)
    refine WC.seq fun F12 h12 => ?_
    refine WC.region ?_
    first | refine RG.op _ _ rfl rfl (o_move (.rd _ _) rfl) ?_ | refine RG.op _ _ rfl rfl (o_move (.own _ _ _ _ _) rfl) ?_ | refine RG.op _ _ rfl rfl (o_move (.v _) rfl) ?_
    refine RG.op _ _ rfl rfl (o_call Ty.cal26 (sum_c a (by omega)) ⟨.inl rfl, trivial⟩ (by repeat constructor)) ?_
    first | refine RG.op _ _ rfl rfl (o_move (.rd _ _) rfl) ?_ | refine RG.op _ _ rfl rfl (o_move (.own _ _ _ _ _) rfl) ?_ | refine RG.op _ _ rfl rfl (o_move (.v _) rfl) ?_
    refine RG.op _ _ rfl rfl (o_call Ty.cal26 (sum_c b (by omega)) ⟨.inl rfl, trivial⟩ (by repeat constructor)) ?_
    refine RG.op _ _ rfl rfl (o_eq32 rfl rfl) ?_
    first | refine RG.op _ _ rfl rfl (o_move (.rd _ _) rfl) ?_ | refine RG.op _ _ rfl rfl (o_move (.own _ _ _ _ _) rfl) ?_ | refine RG.op _ _ rfl rfl (o_move (.v _) rfl) ?_
    refine RG.op _ _ rfl rfl (o_callB Ty.cal26 (sum_c (a ++ c) (by simp; omega)) ⟨Frz.bytes rfl rfl (behind_cs _ _) (behind_len _ _), trivial⟩ (.v _)) ?_
    first | refine RG.op _ _ rfl rfl (o_move (.rd _ _) rfl) ?_ | refine RG.op _ _ rfl rfl (o_move (.own _ _ _ _ _) rfl) ?_ | refine RG.op _ _ rfl rfl (o_move (.v _) rfl) ?_
    refine RG.op _ _ rfl rfl (o_callB Ty.cal26 (sum_c (b ++ c) (by simp; omega)) ⟨Frz.bytes rfl rfl (behind_cs _ _) (behind_len _ _), trivial⟩ (.v _)) ?_
    refine RG.op _ _ rfl rfl (o_eq32 rfl rfl) ?_
    refine RG.op _ _ rfl rfl (o_eqb rfl rfl Try.underlying4) ?_
    refine RG.op _ _ rfl rfl (o_move (.v _) rfl) ?_
    refine RG.opg _ _ _ _ _ rfl rfl rfl rfl rfl (fun hb => o_call Ty.cal25 (told_c) (by repeat (first | exact trivial | refine And.intro (Or.inl (by first | exact rfl | exact gd_on hb)) ?_ | refine And.intro (Or.inr ⟨rfl, rfl⟩) ?_)) (by repeat constructor)) ?_
    first | refine RG.op _ _ rfl rfl (o_and _ _ rfl rfl rfl) ?_ | refine RG.op _ _ rfl rfl (o_or _ _ rfl rfl rfl) ?_ | refine RG.op _ _ rfl rfl (o_pick _ _ _ rfl rfl rfl) ?_
    refine RG.op _ _ rfl rfl (o_assign (.v _) rfl) ?_
    refine RG.nil (h12 _ ?_)
    refine WC.ret ?_
    exact Ends.one rfl (.v (.bool true)) (.bool (by rw [behind_sum]; rfl)) rfl

/-! ### Four bytes -/
theorem bytesD_all (l : List UInt8) : (bytesD l).all oneD = true := List.all_eq_true.2 (bytesD_one l)
theorem four_cs (a f c : List UInt8) : ((([] : List D).take (0 * 1) ++ bytesD a).take ((0 + a.length) * 1) ++ bytesD f).take ((0 + a.length + f.length) * 1) ++ bytesD c = bytesD (a ++ f ++ c) := by
  rw [behind_cs, show (0 + a.length + f.length) * 1 = (bytesD (a ++ f)).length by rw [bytesD_len]; simp, List.take_length, bytesD_app (a ++ f)]
end Go.Proofs.Ytmkljbcjgobjfaa
