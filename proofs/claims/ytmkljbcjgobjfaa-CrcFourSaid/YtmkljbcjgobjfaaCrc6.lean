/-
  The law of crc over four bytes: what it hands back. No condition.
-/
import Derived.Test.YtmkljbcjgobjfaaCrc5
namespace Go.Proofs.Ytmkljbcjgobjfaa
open Go.RowKit Go.DL
set_option linter.unusedSimpArgs false

theorem loop_list (l : List UInt8) : ∀ n i r, l.length - i = n → i ≤ l.length → ByteArray.toList.loop (strB l) i r = r.reverse ++ l.drop i
  | 0, i, r, h, hi => by
    obtain rfl : i = l.length := by omega
    unfold ByteArray.toList.loop
    rw [if_neg (by show ¬ l.length < (l.toArray).size; simp)]
    simp
  | n + 1, i, r, h, hi => by
    unfold ByteArray.toList.loop
    rw [if_pos (by show i < (l.toArray).size; simp; omega), loop_list l n (i + 1) _ (by omega) (by omega)]
    have h1 : (strB l).get! i = l[i]'(by omega) := by
      show (l.toArray)[i]! = _
      rw [getElem!_pos _ _ (by simp; omega)]
      simp
    rw [h1, List.reverse_cons, List.append_assoc]
    congr 1
    rw [List.singleton_append, List.getElem_cons_drop]
theorem strB_toList (l : List UInt8) : (strB l).toList = l := by
  show ByteArray.toList.loop (strB l) 0 [] = l
  rw [loop_list l _ 0 [] rfl (Nat.zero_le _)]; rfl
theorem at_rem (a : Nat) {n : Nat} (h : 4 ≤ n) : D.v (.int .i64 ((a : Int) % ((n : Int) - 3))) = I64 ((a % (n - 3) : Nat) : Int) := by
  rw [show (n : Int) - 3 = ((n - 3 : Nat) : Int) by omega]; rfl
theorem list4 {l : List UInt8} (h : l.length = 4) : ∃ a b c d, l = [a, b, c, d] := by
  match l, h with
  | [a, b, c, d], _ => exact ⟨a, b, c, d, rfl⟩
theorem four_same {l f : List UInt8} (hf : f.length = 4) {i : Nat} (hi : i + 4 ≤ l.length) : ((sumQ (l.take i ++ f ++ l.drop (i + 4)) == sumQ l) == ((strB (l.take i ++ f ++ l.drop (i + 4))).toList == (strB l).toList)) = true := by
  have hl : l = l.take i ++ ((l.drop i).take 4 ++ l.drop (i + 4)) := by
    rw [← List.drop_drop, List.take_append_drop, List.take_append_drop]
  have h4 : ((l.drop i).take 4).length = 4 := by simp; omega
  have key : sumQ (l.take i ++ f ++ l.drop (i + 4)) = sumQ l ↔ l.take i ++ f ++ l.drop (i + 4) = l := by
    constructor
    · intro e
      conv at e => rhs; rw [hl]
      unfold sumQ at e
      have e := not_inj e
      rw [List.append_assoc, foldQ_app, foldQ_app, foldQ_app, foldQ_app] at e
      have e := foldQ_inj _ e
      obtain ⟨a, b, c, d, hf'⟩ := list4 hf
      obtain ⟨a', b', c', d', h4'⟩ := list4 h4
      rw [hf', h4'] at e
      obtain ⟨rfl, rfl, rfl, rfl⟩ := four_inj e
      rw [List.append_assoc, hf', ← h4', ← hl]
    · intro e; rw [e]
  have toL : ∀ x : List UInt8, (strB x).toList = x := fun x => by
    show ByteArray.toList ⟨x.toArray⟩ = x
    exact strB_toList x
  rw [toL, toL]
  by_cases h : l.take i ++ f ++ l.drop (i + 4) = l
  · rw [h]; simp
  · rw [beq_eq_false_iff_ne.2 h, beq_eq_false_iff_ne.2 (fun e => h (key.1 e))]; rfl
theorem four_cs' {f : List UInt8} (hf : f.length = 4) (a c : List UInt8) : ((([] : List D).take (0 * 1) ++ bytesD a).take ((0 + a.length) * 1) ++ bytesD f).take ((0 + a.length + 4) * 1) ++ bytesD c = bytesD (a ++ f ++ c) := by
  have := four_cs a f c
  rw [hf] at this; exact this
theorem fourb_c (l : List UInt8) (hl : l.length ≤ 9223372036854775807) (a : Nat) (ha : a ≤ 65535) (f : List UInt8) (hf : f.length = 4) : Fun Try.prog 10 [rdB l, .v (.int .u16 (a : Int)), .agg (bytesD f)] (· = .v (.bool true)) := by
  refine Fun.of Try.func10 rfl (Nat.le_of_ble_eq_true rfl) fun C => ?_
  refine WC.seq fun F1 h1 => ?_
  refine WC.region ?_
  refine RG.op _ _ rfl rfl (o_box rfl (bytesD_all f)) ?_
  refine RG.op _ _ rfl rfl (o_assign (.v _) rfl) ?_
  refine RG.nil (h1 _ ?_)
  refine WC.seq fun Fa hha => ?_
  refine WC.seq fun F2 h2 => ?_
  refine WC.region ?_
  first | refine RG.op _ _ rfl rfl (o_move (.rd _ _) rfl) ?_ | refine RG.op _ _ rfl rfl (o_move (.own _ _ _ _ _) rfl) ?_ | refine RG.op _ _ rfl rfl (o_move (.v _) rfl) ?_
  first | refine RG.op _ _ rfl rfl (o_len_rd rfl Try.underlying22) ?_ | refine RG.op _ _ rfl rfl (o_len_own rfl Try.underlying22) ?_ | refine RG.op _ _ rfl rfl (o_len_v rfl Try.underlying22) ?_
  refine RG.op _ _ rfl rfl (o_bin _ rfl rfl rfl) ?_
  refine RG.op _ _ rfl rfl (o_move (.v _) rfl) ?_
  first | refine RG.opg _ _ _ _ _ rfl rfl rfl rfl rfl (fun hb => o_move (.rd _ _) (by first | exact rfl | exact gd_on hb)) ?_ | refine RG.opg _ _ _ _ _ rfl rfl rfl rfl rfl (fun hb => o_move (.own _ _ _ _ _) (by first | exact rfl | exact gd_on hb)) ?_ | refine RG.opg _ _ _ _ _ rfl rfl rfl rfl rfl (fun hb => o_move (.v _) (by first | exact rfl | exact gd_on hb)) ?_
  first | refine RG.opg _ _ _ _ _ rfl rfl rfl rfl rfl (fun hb => o_len_rd (by first | exact rfl | exact gd_on hb) Try.underlying22) ?_ | refine RG.opg _ _ _ _ _ rfl rfl rfl rfl rfl (fun hb => o_len_own (by first | exact rfl | exact gd_on hb) Try.underlying22) ?_ | refine RG.opg _ _ _ _ _ rfl rfl rfl rfl rfl (fun hb => o_len_v (by first | exact rfl | exact gd_on hb) Try.underlying22) ?_
  refine RG.opg _ _ _ _ _ rfl rfl rfl rfl rfl (fun hb => o_bin _ (by first | exact rfl | exact gd_on hb) (by first | exact rfl | exact gd_on hb) (by first | exact rfl | exact gd_on hb)) ?_
  first | refine RG.op _ _ rfl rfl (o_and _ _ rfl rfl rfl) ?_ | refine RG.op _ _ rfl rfl (o_or _ _ rfl rfl rfl) ?_ | refine RG.op _ _ rfl rfl (o_pick _ _ _ rfl rfl rfl) ?_
  refine RG.nil (h2 _ ?_)
  refine WC.cond _ rfl (fun hd => ?_) (fun hd => ?_)
  ·
    refine WC.seq fun F3 h3 => ?_
    refine WC.region ?_
    refine RG.op _ _ rfl rfl (o_call Ty.cal25 (told_c) (by repeat (first | exact trivial | refine And.intro (Or.inl rfl) ?_ | refine And.intro (Or.inr ⟨rfl, rfl⟩) ?_)) (by repeat constructor)) ?_
    refine RG.op _ _ rfl rfl (o_assign (.v _) rfl) ?_
    refine RG.nil (h3 _ ?_)
    refine WC.ret ?_
    exact Ends.one rfl (.v (.bool true)) (.v _) rfl
  · have hlo : 4 ≤ l.length := by
      rw [Bool.or_eq_false_iff] at hd
      have := of_decide_eq_false hd.1
      omega
    have hhi : l.length ≤ 4200 := by
      rw [Bool.or_eq_false_iff] at hd
      have := of_decide_eq_false hd.2
      omega
    have hat : a % (l.length - 3) < l.length - 3 := Nat.mod_lt _ (by omega)
    refine WC.skip (hha _ ?_)
    refine WC.seq fun F4 h4 => ?_
    refine WC.region ?_
    refine RG.op _ _ rfl rfl (o_move (.v _) rfl) ?_
    refine RG.op _ _ rfl rfl ((o_int rfl Try.underlying44 Try.underlying3).cast (v_int (wrapi a ha))) ?_
    first | refine RG.op _ _ rfl rfl (o_move (.rd _ _) rfl) ?_ | refine RG.op _ _ rfl rfl (o_move (.own _ _ _ _ _) rfl) ?_ | refine RG.op _ _ rfl rfl (o_move (.v _) rfl) ?_
    first | refine RG.op _ _ rfl rfl (o_len_rd rfl Try.underlying22) ?_ | refine RG.op _ _ rfl rfl (o_len_own rfl Try.underlying22) ?_ | refine RG.op _ _ rfl rfl (o_len_v rfl Try.underlying22) ?_
    first | refine RG.op _ _ rfl rfl (o_sub rfl rfl (by omega) (by omega)) ?_ | refine RG.op _ _ rfl rfl (o_bin _ rfl rfl rfl) ?_
    refine RG.op _ _ rfl rfl ((o_rem rfl rfl (by omega) (by omega)).cast (at_rem a (by omega))) ?_
    refine RG.op _ _ rfl rfl (o_assign (.v _) rfl) ?_
    refine RG.nil (h4 _ ?_)
    refine WC.seq fun F5 h5 => ?_
    refine WC.drawn1 (by kernel_rfl) ?_
    first | refine PG.op _ rfl rfl rfl (by rintro _ rfl; exact o_move (.rd _ _) rfl) ?_ | refine PG.op _ rfl rfl rfl (by rintro _ rfl; exact o_move (.own _ _ _ _ _) rfl) ?_ | refine PG.op _ rfl rfl rfl (by rintro _ rfl; exact o_move (.v _) rfl) ?_
    refine PG.op _ rfl rfl rfl (by rintro _ rfl; exact o_move (.v _) rfl) ?_
    refine PG.op _ rfl rfl rfl (by rintro _ rfl; exact o_take (k := a % (l.length - 3)) rfl ⟨.i64, rfl⟩ Try.underlying22 (sz_of Ty.inf5) (by omega)) ?_
    first | refine PG.op _ rfl rfl rfl (by rintro _ rfl; exact o_move (.rd _ _) rfl) ?_ | refine PG.op _ rfl rfl rfl (by rintro _ rfl; exact o_move (.own _ _ _ _ _) rfl) ?_ | refine PG.op _ rfl rfl rfl (by rintro _ rfl; exact o_move (.v _) rfl) ?_
    refine PG.op _ rfl rfl rfl (by rintro _ rfl; exact o_move (.v _) rfl) ?_
    first | refine PG.op _ rfl rfl rfl (by rintro _ rfl; exact o_add rfl rfl (by omega) (by omega)) ?_ | refine PG.op _ rfl rfl rfl (by rintro _ rfl; exact o_bin _ rfl rfl rfl) ?_
    refine PG.op _ rfl rfl rfl (by rintro _ rfl; exact o_drop (k := a % (l.length - 3) + 4) rfl ⟨.i64, rfl⟩ Try.underlying22 (sz_of Ty.inf5) (by omega)) ?_
    first | refine PG.op _ rfl rfl rfl (by rintro _ rfl; exact o_assign (.rd _ _) rfl) ?_ | refine PG.op _ rfl rfl rfl (by rintro _ rfl; exact o_assign (.own _ _ _ _ _) rfl) ?_ | refine PG.op _ rfl rfl rfl (by rintro _ rfl; exact o_assign (.v _) rfl) ?_
    first | refine PG.op _ rfl rfl rfl (by rintro _ rfl; exact o_assign (.rd _ _) rfl) ?_ | refine PG.op _ rfl rfl rfl (by rintro _ rfl; exact o_assign (.own _ _ _ _ _) rfl) ?_ | refine PG.op _ rfl rfl rfl (by rintro _ rfl; exact o_assign (.v _) rfl) ?_
    refine PG.nil ⟨by kernel_rfl, rfl, (h5 _ ?_)⟩
    refine WC.seq fun F6 h6 => ?_
    refine WC.drawn3 (fun H => H[0]? = some (some ⟨bytesD f, 45, false, 0⟩)) (by kernel_rfl) (rfl) ?_
    refine PG.opm _ _ rfl rfl rfl (o_litO Try.underlying22 Ty.inf5 rfl rfl rfl rfl rfl rfl) ?_
    first | refine PG.op _ rfl rfl rfl (fun _ hH => o_move (.rd _ _) rfl) ?_ | refine PG.op _ rfl rfl rfl (fun _ hH => o_move (.own _ _ _ _ _) rfl) ?_ | refine PG.op _ rfl rfl rfl (fun _ hH => o_move (.v _) rfl) ?_
    refine PG.opm _ _ rfl rfl rfl (o_append_rd (Elem.of Try.underlying22 Ty.inf5 rfl (by decide)) rfl rfl rfl rfl rfl (by (try simp only [bytesD_len, List.length_append, List.length_take, List.length_drop, List.length_replicate, List.length_nil, List.length_cons]); omega) (by (try simp only [bytesD_len, List.length_append, List.length_take, List.length_drop, List.length_replicate, List.length_nil, List.length_cons]); omega) (bytesD_one _) (by (try simp only [bytesD_len, List.length_append, List.length_take, List.length_drop, List.length_replicate, List.length_nil, List.length_cons]); omega) (by (try simp only [bytesD_len, List.length_append, List.length_take, List.length_drop, List.length_replicate, List.length_nil, List.length_cons]); omega)) ?_
    refine PG.op _ rfl rfl rfl (fun _ hH => o_cut_arr rfl Try.underlying45 (sz_of Ty.inf5) hH rfl rfl (by rw [bytesD_len, hf]) (by decide)) ?_
    refine PG.opm _ _ rfl rfl rfl (o_append_own (b := ⟨([] : List D).take (0 * 1) ++ bytesD (l.take (a % (l.length - 3))), 5, true, 1⟩) (b2 := ⟨bytesD f, 45, false, 0⟩) (cs' := bytesD f) (Elem.of Try.underlying22 Ty.inf5 rfl (by decide)) rfl rfl rfl rfl rfl (by simp [bytesD_len]) rfl rfl (by intro e; have e := congrArg List.length e; rw [bytesD_len, hf] at e; cases e) (by rw [bytesD_len, hf]; exact Nat.le_refl _) (by rw [List.drop_zero, List.take_of_length_le (by rw [bytesD_len, hf]; exact Nat.le_refl _)]) (bytesD_one _) (by simp; omega) (by simp; omega)) ?_
    first | refine PG.op _ rfl rfl rfl (fun _ hH => o_move (.rd _ _) rfl) ?_ | refine PG.op _ rfl rfl rfl (fun _ hH => o_move (.own _ _ _ _ _) rfl) ?_ | refine PG.op _ rfl rfl rfl (fun _ hH => o_move (.v _) rfl) ?_
    refine PG.opm _ _ rfl rfl rfl (o_append_rd (Elem.of Try.underlying22 Ty.inf5 rfl (by decide)) rfl rfl rfl rfl rfl (by (try simp only [bytesD_len, List.length_append, List.length_take, List.length_drop, List.length_replicate, List.length_nil, List.length_cons]); omega) (by (try simp only [bytesD_len, List.length_append, List.length_take, List.length_drop, List.length_replicate, List.length_nil, List.length_cons]); omega) (bytesD_one _) (by (try simp only [bytesD_len, List.length_append, List.length_take, List.length_drop, List.length_replicate, List.length_nil, List.length_cons]); omega) (by (try simp only [bytesD_len, List.length_append, List.length_take, List.length_drop, List.length_replicate, List.length_nil, List.length_cons]); omega)) ?_
    first | refine PG.op _ rfl rfl rfl (fun _ hH => o_assign (.rd _ _) rfl) ?_ | refine PG.op _ rfl rfl rfl (fun _ hH => o_assign (.own _ _ _ _ _) rfl) ?_ | refine PG.op _ rfl rfl rfl (fun _ hH => o_assign (.v _) rfl) ?_
    refine PG.nil ⟨by kernel_rfl, List.forall_mem_cons.2 ⟨fun _ => rfl, List.forall_mem_cons.2 ⟨noHs rfl, List.forall_mem_cons.2 ⟨fun _ => rfl, List.forall_mem_cons.2 ⟨noHs rfl, List.forall_mem_cons.2 ⟨fun _ => rfl, List.forall_mem_cons.2 ⟨noHs rfl, List.forall_mem_cons.2 ⟨fun _ => rfl, List.forall_mem_cons.2 ⟨noHs rfl, List.forall_mem_nil _⟩⟩⟩⟩⟩⟩⟩⟩, (h6 _ ?_)⟩
    refine WC.seq fun F7 h7 => ?_
    refine WC.drawn1 (by kernel_rfl) ?_
    first | refine PG.op _ rfl rfl rfl (by rintro _ rfl; exact o_move (.rd _ _) rfl) ?_ | refine PG.op _ rfl rfl rfl (by rintro _ rfl; exact o_move (.own _ _ _ _ _) rfl) ?_ | refine PG.op _ rfl rfl rfl (by rintro _ rfl; exact o_move (.v _) rfl) ?_
    refine PG.op _ rfl rfl rfl (by rintro _ rfl; exact o_callB Ty.cal26 (sum_c (l.take (a % (l.length - 3)) ++ f ++ l.drop (a % (l.length - 3) + 4)) (by simp; omega)) ⟨Frz.bytes rfl rfl (four_cs' hf _ _) (by simp [hf]; omega), trivial⟩ (.v _)) ?_
    first | refine PG.op _ rfl rfl rfl (by rintro _ rfl; exact o_move (.rd _ _) rfl) ?_ | refine PG.op _ rfl rfl rfl (by rintro _ rfl; exact o_move (.own _ _ _ _ _) rfl) ?_ | refine PG.op _ rfl rfl rfl (by rintro _ rfl; exact o_move (.v _) rfl) ?_
    refine PG.op _ rfl rfl rfl (by rintro _ rfl; exact o_call Ty.cal26 (sum_c l (by omega)) ⟨.inl rfl, trivial⟩ (by repeat constructor)) ?_
    refine PG.op _ rfl rfl rfl (by rintro _ rfl; exact o_eq32 rfl rfl) ?_
    first | refine PG.op _ rfl rfl rfl (by rintro _ rfl; exact o_move (.rd _ _) rfl) ?_ | refine PG.op _ rfl rfl rfl (by rintro _ rfl; exact o_move (.own _ _ _ _ _) rfl) ?_ | refine PG.op _ rfl rfl rfl (by rintro _ rfl; exact o_move (.v _) rfl) ?_
    refine PG.op _ rfl rfl rfl (by rintro _ rfl; exact o_str_own rfl rfl rfl (four_cs' hf _ _) (by simp [hf]; omega) Try.underlying22 Try.underlying5 Try.underlying9) ?_
    first | refine PG.op _ rfl rfl rfl (by rintro _ rfl; exact o_move (.rd _ _) rfl) ?_ | refine PG.op _ rfl rfl rfl (by rintro _ rfl; exact o_move (.own _ _ _ _ _) rfl) ?_ | refine PG.op _ rfl rfl rfl (by rintro _ rfl; exact o_move (.v _) rfl) ?_
    refine PG.op _ rfl rfl rfl (by rintro _ rfl; exact o_str_rd (l := l) rfl Try.underlying22 Try.underlying5 Try.underlying9) ?_
    refine PG.op _ rfl rfl rfl (by rintro _ rfl; exact o_eqs rfl rfl) ?_
    refine PG.op _ rfl rfl rfl (by rintro _ rfl; exact o_eqb rfl rfl Try.underlying4) ?_
    refine PG.op _ rfl rfl rfl (by rintro _ rfl; exact o_move (.v _) rfl) ?_
    refine PG.opg _ _ _ _ _ rfl rfl rfl rfl rfl rfl (fun hb => (by rintro _ rfl; exact o_call Ty.cal25 (told_c) (by repeat (first | exact trivial | refine And.intro (Or.inl (by first | exact rfl | exact gd_on hb)) ?_ | refine And.intro (Or.inr ⟨rfl, rfl⟩) ?_)) (by repeat constructor))) ?_
    first | refine PG.op _ rfl rfl rfl (by rintro _ rfl; exact o_and _ _ rfl rfl rfl) ?_ | refine PG.op _ rfl rfl rfl (by rintro _ rfl; exact o_or _ _ rfl rfl rfl) ?_ | refine PG.op _ rfl rfl rfl (by rintro _ rfl; exact o_pick _ _ _ rfl rfl rfl) ?_
    refine PG.op _ rfl rfl rfl (by rintro _ rfl; exact o_assign (.v _) rfl) ?_
    refine PG.nil ⟨by kernel_rfl, rfl, (h7 _ ?_)⟩
    refine WC.ret ?_
    exact Ends.one rfl (.v (.bool true)) (.bool (by rw [four_same hf (by omega)]; rfl)) rfl
end Go.Proofs.Ytmkljbcjgobjfaa
