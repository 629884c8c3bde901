/-
  Layer key: the chapter's example, and what is long. No condition.
-/
import Derived.Test.YtmkljbcjgobjfaaK11
set_option linter.unusedSimpArgs false
set_option linter.unusedVariables false
namespace Go.Proofs.Ytmkljbcjgobjfaa
open Go.RowKit Go.DL

theorem long_sz {l : List Val} (h : longM l = false) : l.length ≤ 30 ∧ szM l ≤ 18330 ∧ ∀ v ∈ l, v.t.length ≤ 300 := by
  unfold longM at h
  rw [Bool.or_eq_false_iff, decide_eq_false_iff_not, List.any_eq_false] at h
  have h2 : ∀ v ∈ l, v.t.length ≤ 300 := fun v hv => by have := h.2 v hv; simpa using this
  have h3 : szM l ≤ l.length * 611 := by
    clear h
    induction l with
    | nil => simp [szM]
    | cons v l ih =>
      have := ih fun x hx => h2 x (List.mem_cons_of_mem _ hx)
      have := h2 v List.mem_cons_self
      simp only [szM, List.map_cons, List.sum_cons, List.length_cons] at *; omega
  exact ⟨by omega, by omega, h2⟩
def exL : List Val := [⟨0, 0, []⟩, ⟨1, 1, []⟩, ⟨2, 1, []⟩, ⟨3, 0, [97]⟩]
def exB : List UInt8 := [1, 2, 1, 3, 128, 0, 0, 0, 0, 0, 0, 1, 4, 97, 0, 1]
theorem exA : appM [] exL = some exB := by decide +kernel
theorem exA_c : Fun Try.prog 16 [rdB [], rdV exL] (· = .tup [rdB exB, I64 0]) := by
  have h := app_c [] exL (by decide +kernel)
  rw [exA] at h
  exact h
def exP : List UInt8 := [3, 127, 255, 255, 255, 255, 255, 255, 255]
theorem exP1 : parseM exP = .ok [⟨2, -1, []⟩] := by
  rw [parse_ok (v := ⟨2, -1, []⟩) (n := 9) (by decide +kernel) (by kernel_rfl) (by omega), parse_nil (by decide +kernel)]; rfl
theorem exP_c : Fun Try.prog 20 [rdB exP] (· = .tup [rdV [⟨2, -1, []⟩], I64 0]) := by
  have h := parse_c exP (by decide +kernel)
  rw [exP1] at h
  exact h
set_option maxHeartbeats 4000000 in
theorem keys_c : Fun Try.prog 19 [] (· = Bo true) := by
  refine Fun.of Try.func19 rfl (Nat.le_of_ble_eq_true rfl) fun C => ?_
  refine WC.seq fun Fh1_ h1_ => ?_
  refine WC.region ?_
  refine RG.op _ _ rfl rfl (o_assign (.v _) rfl) ?_
  refine RG.nil (h1_ _ ?_)
  refine WC.seq fun Fh2_ h2_ => ?_
  refine WC.region ?_
  refine RG.op _ _ rfl rfl (o_build (cs := [B8 0, I64 0, S []]) Try.underlying41 Ty.inf41 (Ty.pl41 Try.underlying41) rfl) ?_
  refine RG.op _ _ rfl rfl (o_build (cs := [(B8 1), (.v _), S []]) Try.underlying41 Ty.inf41 (Ty.pl41 Try.underlying41) rfl) ?_
  refine RG.op _ _ rfl rfl (o_build (cs := [(B8 2), (.v _), S []]) Try.underlying41 Ty.inf41 (Ty.pl41 Try.underlying41) rfl) ?_
  refine RG.op _ _ rfl rfl (o_build (cs := [(B8 3), I64 0, (S ([97] : List UInt8))]) Try.underlying41 Ty.inf41 (Ty.pl41 Try.underlying41) rfl) ?_
  refine RG.op _ _ rfl rfl (o_litP (cs := [_, _, _, _, _, _, _, _, _, _, _, _]) Try.underlying23 Ty.inf41 rfl rfl rfl rfl (by repeat (first | exact pu_bytes _ | exact pu_nil | exact pu_vs rfl | exact pu_map (fun _ => .v _) _ | exact pu_vals _ | refine pu_app ?_ ?_ | refine pu_cons (by first | exact .v _ | exact .rd _ _ | exact .adr _ | exact .mp _ _ | exact .agg _ (by repeat (first | exact pu_bytes _ | exact pu_nil | exact pu_vs rfl | exact pu_map (fun _ => .v _) _ | exact pu_vals _ | refine pu_app ?_ ?_ | refine pu_cons (by first | exact .v _ | exact .rd _ _ | exact .adr _ | exact .mp _ _ | exact .agg _ (pu_vs rfl)) ?_)) | exact .tup _ (by repeat (first | exact pu_bytes _ | exact pu_nil | exact pu_vs rfl | exact pu_map (fun _ => .v _) _ | exact pu_vals _ | refine pu_app ?_ ?_ | refine pu_cons (by first | exact .v _ | exact .rd _ _ | exact .adr _ | exact .mp _ _ | exact .agg _ (pu_vs rfl)) ?_)) | exact .fn _ _ (by repeat (first | exact pu_bytes _ | exact pu_nil | exact pu_vs rfl | exact pu_map (fun _ => .v _) _ | exact pu_vals _ | refine pu_app ?_ ?_ | refine pu_cons (by first | exact .v _ | exact .rd _ _ | exact .adr _ | exact .mp _ _ | exact .agg _ (pu_vs rfl)) ?_)) | exact .iface _ _ (.v _) | exact .iface _ _ (.agg _ (by repeat (first | exact pu_bytes _ | exact pu_nil | exact pu_vs rfl | exact pu_map (fun _ => .v _) _ | exact pu_vals _ | refine pu_app ?_ ?_ | refine pu_cons (by first | exact .v _ | exact .rd _ _ | exact .adr _ | exact .mp _ _ | exact .agg _ (pu_vs rfl)) ?_)))) ?_))) ?_
  refine RG.op _ _ rfl rfl (o_call Ty.cal16 exA_c ⟨.inr ⟨rfl, rfl⟩, .inl rfl, trivial⟩ (by repeat (first | exact trivial | refine And.intro (by first | exact .v _ | exact .rd _ _ | exact .adr _ | exact .mp _ _ | exact .agg _ (by repeat (first | exact pu_bytes _ | exact pu_nil | exact pu_vs rfl | exact pu_map (fun _ => .v _) _ | exact pu_vals _ | refine pu_app ?_ ?_ | refine pu_cons (by first | exact .v _ | exact .rd _ _ | exact .adr _ | exact .mp _ _ | exact .agg _ (pu_vs rfl)) ?_)) | exact .tup _ (by repeat (first | exact pu_bytes _ | exact pu_nil | exact pu_vs rfl | exact pu_map (fun _ => .v _) _ | exact pu_vals _ | refine pu_app ?_ ?_ | refine pu_cons (by first | exact .v _ | exact .rd _ _ | exact .adr _ | exact .mp _ _ | exact .agg _ (pu_vs rfl)) ?_)) | exact .fn _ _ (by repeat (first | exact pu_bytes _ | exact pu_nil | exact pu_vs rfl | exact pu_map (fun _ => .v _) _ | exact pu_vals _ | refine pu_app ?_ ?_ | refine pu_cons (by first | exact .v _ | exact .rd _ _ | exact .adr _ | exact .mp _ _ | exact .agg _ (pu_vs rfl)) ?_)) | exact .iface _ _ (.v _) | exact .iface _ _ (.agg _ (by repeat (first | exact pu_bytes _ | exact pu_nil | exact pu_vs rfl | exact pu_map (fun _ => .v _) _ | exact pu_vals _ | refine pu_app ?_ ?_ | refine pu_cons (by first | exact .v _ | exact .rd _ _ | exact .adr _ | exact .mp _ _ | exact .agg _ (pu_vs rfl)) ?_)))) ?_))) ?_
  refine RG.op _ _ rfl rfl (o_move (.tup _) rfl) ?_
  refine RG.op _ _ rfl rfl (o_extract rfl rfl) ?_
  refine RG.op _ _ rfl rfl (o_extract rfl rfl) ?_
  refine RG.op _ _ rfl rfl (o_assign (.rd _ _) rfl) ?_
  refine RG.op _ _ rfl rfl (o_assign (.v _) rfl) ?_
  refine RG.nil (h2_ _ ?_)
  refine WC.seq fun Fh3_ h3_ => ?_
  refine WC.region ?_
  refine RG.op _ _ rfl rfl (o_litP (cs := [(B8 3), (B8 127), (B8 255), (B8 255), (B8 255), (B8 255), (B8 255), (B8 255), (B8 255)]) Try.underlying22 Ty.inf5 rfl rfl rfl rfl (by repeat (first | exact pu_bytes _ | exact pu_nil | exact pu_vs rfl | exact pu_map (fun _ => .v _) _ | exact pu_vals _ | refine pu_app ?_ ?_ | refine pu_cons (by first | exact .v _ | exact .rd _ _ | exact .adr _ | exact .mp _ _ | exact .agg _ (by repeat (first | exact pu_bytes _ | exact pu_nil | exact pu_vs rfl | exact pu_map (fun _ => .v _) _ | exact pu_vals _ | refine pu_app ?_ ?_ | refine pu_cons (by first | exact .v _ | exact .rd _ _ | exact .adr _ | exact .mp _ _ | exact .agg _ (pu_vs rfl)) ?_)) | exact .tup _ (by repeat (first | exact pu_bytes _ | exact pu_nil | exact pu_vs rfl | exact pu_map (fun _ => .v _) _ | exact pu_vals _ | refine pu_app ?_ ?_ | refine pu_cons (by first | exact .v _ | exact .rd _ _ | exact .adr _ | exact .mp _ _ | exact .agg _ (pu_vs rfl)) ?_)) | exact .fn _ _ (by repeat (first | exact pu_bytes _ | exact pu_nil | exact pu_vs rfl | exact pu_map (fun _ => .v _) _ | exact pu_vals _ | refine pu_app ?_ ?_ | refine pu_cons (by first | exact .v _ | exact .rd _ _ | exact .adr _ | exact .mp _ _ | exact .agg _ (pu_vs rfl)) ?_)) | exact .iface _ _ (.v _) | exact .iface _ _ (.agg _ (by repeat (first | exact pu_bytes _ | exact pu_nil | exact pu_vs rfl | exact pu_map (fun _ => .v _) _ | exact pu_vals _ | refine pu_app ?_ ?_ | refine pu_cons (by first | exact .v _ | exact .rd _ _ | exact .adr _ | exact .mp _ _ | exact .agg _ (pu_vs rfl)) ?_)))) ?_))) ?_
  refine RG.op _ _ rfl rfl (o_call Ty.cal20 exP_c ⟨.inl rfl, trivial⟩ (by repeat (first | exact trivial | refine And.intro (by first | exact .v _ | exact .rd _ _ | exact .adr _ | exact .mp _ _ | exact .agg _ (by repeat (first | exact pu_bytes _ | exact pu_nil | exact pu_vs rfl | exact pu_map (fun _ => .v _) _ | exact pu_vals _ | refine pu_app ?_ ?_ | refine pu_cons (by first | exact .v _ | exact .rd _ _ | exact .adr _ | exact .mp _ _ | exact .agg _ (pu_vs rfl)) ?_)) | exact .tup _ (by repeat (first | exact pu_bytes _ | exact pu_nil | exact pu_vs rfl | exact pu_map (fun _ => .v _) _ | exact pu_vals _ | refine pu_app ?_ ?_ | refine pu_cons (by first | exact .v _ | exact .rd _ _ | exact .adr _ | exact .mp _ _ | exact .agg _ (pu_vs rfl)) ?_)) | exact .fn _ _ (by repeat (first | exact pu_bytes _ | exact pu_nil | exact pu_vs rfl | exact pu_map (fun _ => .v _) _ | exact pu_vals _ | refine pu_app ?_ ?_ | refine pu_cons (by first | exact .v _ | exact .rd _ _ | exact .adr _ | exact .mp _ _ | exact .agg _ (pu_vs rfl)) ?_)) | exact .iface _ _ (.v _) | exact .iface _ _ (.agg _ (by repeat (first | exact pu_bytes _ | exact pu_nil | exact pu_vs rfl | exact pu_map (fun _ => .v _) _ | exact pu_vals _ | refine pu_app ?_ ?_ | refine pu_cons (by first | exact .v _ | exact .rd _ _ | exact .adr _ | exact .mp _ _ | exact .agg _ (pu_vs rfl)) ?_)))) ?_))) ?_
  refine RG.op _ _ rfl rfl (o_move (.tup _) rfl) ?_
  refine RG.op _ _ rfl rfl (o_extract rfl rfl) ?_
  refine RG.op _ _ rfl rfl (o_extract rfl rfl) ?_
  refine RG.op _ _ rfl rfl (o_assign (.rd _ _) rfl) ?_
  refine RG.op _ _ rfl rfl (o_assign (.v _) rfl) ?_
  refine RG.nil (h3_ _ ?_)
  refine WC.seq fun Fh4_ h4_ => ?_
  refine WC.region ?_
  refine RG.op _ _ rfl rfl (o_move (.v _) rfl) ?_
  refine RG.op _ _ rfl rfl (o_eqI rfl rfl) ?_
  refine RG.op _ _ rfl rfl (o_move (.v _) rfl) ?_
  refine RG.opg1 _ _ _ _ _ rfl rfl rfl rfl rfl (fun hb => o_move (.rd _ _) rfl) ?_
  refine RG.opg1 _ _ _ _ _ rfl rfl rfl rfl rfl (fun hb => o_str_rd (gdT hb) Try.underlying22 Try.underlying5 Try.underlying9) ?_
  refine RG.opg1 _ _ _ _ _ rfl rfl rfl rfl rfl (fun hb => o_eqS' (m := ([1, 2, 1, 3, 128, 0, 0, 0, 0, 0, 0, 1, 4, 97, 0, 1] : List UInt8)) (gdT hb) rfl) ?_
  refine RG.op _ _ rfl rfl (o_and _ _ rfl rfl rfl) ?_
  refine RG.op _ _ rfl rfl (o_move (.v _) rfl) ?_
  refine RG.opg1 _ _ _ _ _ rfl rfl rfl rfl rfl (fun hb => o_move (.v _) rfl) ?_
  refine RG.opg1 _ _ _ _ _ rfl rfl rfl rfl rfl (fun hb => o_eqI (gdT hb) rfl) ?_
  refine RG.op _ _ rfl rfl (o_and _ _ rfl rfl rfl) ?_
  refine RG.op _ _ rfl rfl (o_move (.v _) rfl) ?_
  refine RG.opg1 _ _ _ _ _ rfl rfl rfl rfl rfl (fun hb => o_move (.rd _ _) rfl) ?_
  refine RG.opg1 _ _ _ _ _ rfl rfl rfl rfl rfl (fun hb => o_len_rd (gdT hb) Try.underlying23) ?_
  refine RG.opg1 _ _ _ _ _ rfl rfl rfl rfl rfl (fun hb => o_eqI (gdT hb) rfl) ?_
  refine RG.op _ _ rfl rfl (o_and _ _ rfl rfl rfl) ?_
  refine RG.op _ _ rfl rfl (o_move (.v _) rfl) ?_
  refine RG.opg1 _ _ _ _ _ rfl rfl rfl rfl rfl (fun hb => o_move (.rd _ _) rfl) ?_
  refine RG.opg1 _ _ _ _ _ rfl rfl rfl rfl rfl (fun hb => o_ixn_LZ (⟨0, 0, []⟩ : Val) 0 vc_len rfl (gdT hb) rfl Try.underlying23 (sz_of Ty.inf41) (by first | omega | exact ubyte _ | (have hb' := hb; simp only [decide_eq_true_eq, decide_eq_false_iff_not, Bool.and_eq_true, Bool.or_eq_true, Bool.not_eq_true', Bool.not_eq_false', Bool.and_eq_false_iff, Bool.or_eq_false_iff, beq_iff_eq, bne_iff_ne, beq_eq_false_iff_ne, bne_eq_false_iff_eq, Int.not_lt, Int.not_le, ne_eq, Decidable.not_not] at hb'; omega) | (simp only [bytesD_len, zeros_len, flatMap_len vc_len, List.length_append, List.length_take, List.length_drop, List.length_map, List.length_nil, List.length_cons, List.length_replicate, List.length_reverse, List.length_set, List.length_range, strB_size] <;> omega) | (have hb' := hb; simp only [decide_eq_true_eq, decide_eq_false_iff_not, Bool.and_eq_true, Bool.or_eq_true, Bool.not_eq_true', Bool.not_eq_false', Bool.and_eq_false_iff, Bool.or_eq_false_iff, beq_iff_eq, bne_iff_ne, beq_eq_false_iff_ne, bne_eq_false_iff_eq, Int.not_lt, Int.not_le, ne_eq, Decidable.not_not] at hb'; simp only [bytesD_len, zeros_len, flatMap_len vc_len, List.length_append, List.length_take, List.length_drop, List.length_map, List.length_nil, List.length_cons, List.length_replicate, List.length_reverse, List.length_set, List.length_range, strB_size]; omega)) (by first | omega | exact ubyte _ | (have hb' := hb; simp only [decide_eq_true_eq, decide_eq_false_iff_not, Bool.and_eq_true, Bool.or_eq_true, Bool.not_eq_true', Bool.not_eq_false', Bool.and_eq_false_iff, Bool.or_eq_false_iff, beq_iff_eq, bne_iff_ne, beq_eq_false_iff_ne, bne_eq_false_iff_eq, Int.not_lt, Int.not_le, ne_eq, Decidable.not_not] at hb'; omega) | (simp only [bytesD_len, zeros_len, flatMap_len vc_len, List.length_append, List.length_take, List.length_drop, List.length_map, List.length_nil, List.length_cons, List.length_replicate, List.length_reverse, List.length_set, List.length_range, strB_size] <;> omega) | (have hb' := hb; simp only [decide_eq_true_eq, decide_eq_false_iff_not, Bool.and_eq_true, Bool.or_eq_true, Bool.not_eq_true', Bool.not_eq_false', Bool.and_eq_false_iff, Bool.or_eq_false_iff, beq_iff_eq, bne_iff_ne, beq_eq_false_iff_ne, bne_eq_false_iff_eq, Int.not_lt, Int.not_le, ne_eq, Decidable.not_not] at hb'; simp only [bytesD_len, zeros_len, flatMap_len vc_len, List.length_append, List.length_take, List.length_drop, List.length_map, List.length_nil, List.length_cons, List.length_replicate, List.length_reverse, List.length_set, List.length_range, strB_size]; omega))) ?_
  refine RG.opg1 _ _ _ _ _ rfl rfl rfl rfl rfl (fun hb => o_load_adr_L (xs := [_, _, _]) (gdT hb) Try.underlying41 rfl (sz_of Ty.inf41) rfl) ?_
  refine RG.opg1 _ _ _ _ _ rfl rfl rfl rfl rfl (fun hb => o_build (cs := [(B8 2), (.v _), S []]) Try.underlying41 Ty.inf41 (Ty.pl41 Try.underlying41) rfl) ?_
  refine RG.opg1 _ _ _ _ _ rfl rfl rfl rfl rfl (fun hb => o_eqV Ty.fs41 (gdT hb) (gdT hb)) ?_
  refine RG.op _ _ rfl rfl (o_and _ _ rfl rfl rfl) ?_
  refine RG.op _ _ rfl rfl (o_assign (.v _) rfl) ?_
  refine RG.nil (h4_ _ ?_)
  refine WC.ret ?_
  exact Ends.r1 rfl (.tmp _ (.v _) rfl) (.v _) (congrArg Bo (by decide +kernel))
theorem oneC_sz {c : UInt8} {b : List UInt8} {v : Val} {n : Nat} (h0 : 0 < b.length) (h : oneC c b = .ok (v, n)) : 2 * v.t.length + 11 ≤ 13 * n := by
  unfold oneC nullM boolM intM textR at h
  split at h
  · cases h; exact Nat.le_of_ble_eq_true rfl
  split at h
  · split at h
    · cases h
    · split at h
      · cases h
      · cases h; exact Nat.le_of_ble_eq_true rfl
  split at h
  · split at h
    · cases h
    · cases h; exact Nat.le_of_ble_eq_true rfl
  · cases h2 : textM (b.drop 1) with
    | error e => rw [h2] at h; cases h
    | ok p =>
      rw [h2] at h
      cases h
      have := text_bound _ _ _ h2
      show 2 * p.1.length + 11 ≤ 13 * (p.2 + 1); omega
theorem oneP_cases {b : List UInt8} : (oneP b = oneC (b.getD 0 0) b ∧ lookB (b.getD 0 0) = true) ∨ oneP b = .error 21 := by
  unfold oneP
  split
  · rename_i h; exact .inl ⟨rfl, h⟩
  · exact .inr rfl
theorem oneP_ok {b : List UInt8} {v : Val} {n : Nat} (h : oneP b = .ok (v, n)) : oneC (b.getD 0 0) b = .ok (v, n) ∧ lookB (b.getD 0 0) = true := by
  rcases oneP_cases (b := b) with ⟨h1, h2⟩ | h1
  · rw [h1] at h; exact ⟨h, h2⟩
  · rw [h1] at h; cases h
theorem parse_sz : ∀ (n : Nat) (b : List UInt8), b.length ≤ n → (pL (parseM b)).length ≤ b.length ∧ szM (pL (parseM b)) ≤ 13 * b.length
  | n, b, hn => by
    rcases Nat.eq_zero_or_pos b.length with h0 | h0
    · rw [parse_nil h0]; exact ⟨Nat.zero_le _, Nat.zero_le _⟩
    cases h : oneP b with
    | error e => rw [parse_err h0 h]; exact ⟨Nat.zero_le _, Nat.zero_le _⟩
    | ok p =>
      obtain ⟨v, k⟩ := p
      have h1 := (oneP_ok h).1
      have h2 := oneC_bound h0 h1
      have h3 := oneC_sz h0 h1
      rw [parse_ok h0 h h2.1]
      have hl : (b.drop k).length = b.length - k := List.length_drop
      match n, hn with
      | 0, hn => omega
      | n + 1, hn =>
        have ih := parse_sz n (b.drop k) (by omega)
        cases hp : parseM (b.drop k) with
        | error e => exact ⟨Nat.zero_le _, Nat.zero_le _⟩
        | ok l =>
          rw [hp] at ih
          show (v :: l).length ≤ _ ∧ szM (v :: l) ≤ _
          have ih1 : l.length ≤ (b.drop k).length := ih.1
          have ih2 : szM l ≤ 13 * (b.drop k).length := ih.2
          have e : szM (v :: l) = 2 * v.t.length + 11 + szM l := by simp [szM]
          rw [e, List.length_cons]; omega
theorem parse_len (b : List UInt8) : (pL (parseM b)).length ≤ b.length := (parse_sz _ b (Nat.le_refl _)).1
end Go.Proofs.Ytmkljbcjgobjfaa
