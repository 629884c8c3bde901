/-
  The laws of crc over rows: what each hands back. No condition.
-/
import Derived.Test.YtmkljbcjgobjfaaCrc3
namespace Go.Proofs.Ytmkljbcjgobjfaa
open Go.RowKit Go.DL

theorem rows_c (l : List UInt8) (hl : l.length ≤ 9223372036854775807) : Fun Try.prog 9 [rdB l] (· = .v (.bool true)) := by
  refine Fun.of Try.func9 rfl (Nat.le_of_ble_eq_true rfl) fun C => ?_
  refine WC.seq fun F1 h1 => ?_
  refine WC.region ?_
  refine RG.op _ _ rfl rfl (o_assign (.v _) rfl) ?_
  refine RG.nil (h1 _ ?_)
  refine WC.seq fun Fa ha => ?_
  refine WC.seq fun F2 h2 => ?_
  refine WC.region ?_
  first | refine RG.op _ _ rfl rfl (o_move (.rd _ _) rfl) ?_ | refine RG.op _ _ rfl rfl (o_move (.own _ _ _ _ _) rfl) ?_ | refine RG.op _ _ rfl rfl (o_move (.v _) rfl) ?_
  first | refine RG.op _ _ rfl rfl (o_len_rd rfl Try.underlying22) ?_ | refine RG.op _ _ rfl rfl (o_len_own rfl Try.underlying22) ?_ | refine RG.op _ _ rfl rfl (o_len_v rfl Try.underlying22) ?_
  refine RG.op _ _ rfl rfl (o_bin _ rfl rfl rfl) ?_
  refine RG.nil (h2 _ ?_)
  refine WC.cond _ rfl (fun hc => ?_) (fun hc => ?_)
  ·
    refine WC.seq fun F3 h3 => ?_
    refine WC.region ?_
    refine RG.op _ _ rfl rfl (o_call Ty.cal25 (told_c) (by repeat (first | exact trivial | refine And.intro (Or.inl rfl) ?_ | refine And.intro (Or.inr ⟨rfl, rfl⟩) ?_)) (by repeat constructor)) ?_
    refine RG.op _ _ rfl rfl (o_assign (.v _) rfl) ?_
    refine RG.nil (h3 _ ?_)
    refine WC.ret ?_
    exact Ends.one rfl (.v (.bool true)) (.v _) rfl
  · have hl' := of_decide_eq_false hc
    refine WC.skip (ha _ ?_)
    refine WC.seq fun F4 h4 => ?_
    refine WC.region ?_
    first | refine RG.op _ _ rfl rfl (o_move (.rd _ _) rfl) ?_ | refine RG.op _ _ rfl rfl (o_move (.own _ _ _ _ _) rfl) ?_ | refine RG.op _ _ rfl rfl (o_move (.v _) rfl) ?_
    first | refine RG.op _ _ rfl rfl (o_str_rd rfl Try.underlying22 Try.underlying5 Try.underlying9) ?_ | refine RG.op _ _ rfl rfl (o_str_own rfl rfl rfl rfl rfl Try.underlying22 Try.underlying5 Try.underlying9) ?_
    refine RG.op _ _ rfl rfl (o_assign (.v _) rfl) ?_
    refine RG.nil (h4 _ ?_)
    refine WC.seq fun Fb hb => ?_
    refine WC.seq fun F5 h5 => ?_
    refine WC.region ?_
    refine RG.op _ _ rfl rfl (o_assign (.v _) rfl) ?_
    refine RG.nil (h5 _ ?_)
    refine WC.block ?_
    refine WC.loop [4, 11, 12, 13, 14, 15, 16, 17, 18, 19, 20, 21, 22, 23, 24, 25, 26, 27, 28, 29, 30, 31, 32, 33, 34] (fun k : Nat => [(4, I64 k)]) (fun _ => []) (fun k => k ≤ 1000) (fun k => 1000 - k) 0 (Nat.zero_le _) ?a ?b
    case a => exact .mk' ⟨⟨rfl, .v _⟩, trivial⟩ (same_refl _ _) rfl trivial trivial
    case b =>
      intro k hk
      refine WC.seq fun Fc hcc => ?_
      refine WC.seq fun F6 h6 => ?_
      refine WC.region ?_
      refine RG.op _ _ rfl rfl (o_move (.v _) rfl) ?_
      first | refine RG.op _ _ rfl rfl (o_move (.rd _ _) rfl) ?_ | refine RG.op _ _ rfl rfl (o_move (.own _ _ _ _ _) rfl) ?_ | refine RG.op _ _ rfl rfl (o_move (.v _) rfl) ?_
      first | refine RG.op _ _ rfl rfl (o_len_rd rfl Try.underlying22) ?_ | refine RG.op _ _ rfl rfl (o_len_own rfl Try.underlying22) ?_ | refine RG.op _ _ rfl rfl (o_len_v rfl Try.underlying22) ?_
      refine RG.op _ _ rfl rfl (o_bin _ rfl rfl rfl) ?_
      refine RG.nil (h6 _ ?_)
      refine WC.cond _ rfl (fun hd => ?_) (fun hd => ?_)
      · have hk' := of_decide_eq_true hd
        refine WC.skip (hcc _ ?_)
        refine WC.seq fun Fd hdd => ?_
        refine WC.block ?_
        refine WC.seq fun F7 h7 => ?_
        refine WC.drawn1 (by kernel_rfl) ?_
        first | refine PG.op _ rfl rfl rfl (by rintro _ rfl; exact o_move (.rd _ _) rfl) ?_ | refine PG.op _ rfl rfl rfl (by rintro _ rfl; exact o_move (.own _ _ _ _ _) rfl) ?_ | refine PG.op _ rfl rfl rfl (by rintro _ rfl; exact o_move (.v _) rfl) ?_
        refine PG.op _ rfl rfl rfl (by rintro _ rfl; exact o_move (.v _) rfl) ?_
        refine PG.op _ rfl rfl rfl (by rintro _ rfl; exact o_take rfl ⟨.i64, rfl⟩ Try.underlying22 (sz_of Ty.inf5) (by omega)) ?_
        refine PG.op _ rfl rfl rfl (by rintro _ rfl; exact o_call Ty.cal26 (sum_c (l.take k) (by rw [List.length_take]; omega)) ⟨.inl rfl, trivial⟩ (by repeat constructor)) ?_
        first | refine PG.op _ rfl rfl rfl (by rintro _ rfl; exact o_move (.rd _ _) rfl) ?_ | refine PG.op _ rfl rfl rfl (by rintro _ rfl; exact o_move (.own _ _ _ _ _) rfl) ?_ | refine PG.op _ rfl rfl rfl (by rintro _ rfl; exact o_move (.v _) rfl) ?_
        refine PG.op _ rfl rfl rfl (by rintro _ rfl; exact o_move (.v _) rfl) ?_
        refine PG.op _ rfl rfl rfl (by rintro _ rfl; exact o_take rfl ⟨.i64, rfl⟩ Try.underlying22 (sz_of Ty.inf5) (by omega)) ?_
        refine PG.op _ rfl rfl rfl (by rintro _ rfl; exact o_call Ty.cal27 (ref_c (l.take k) (by rw [List.length_take]; omega)) ⟨.inl rfl, trivial⟩ (by repeat constructor)) ?_
        refine PG.op _ rfl rfl rfl (by rintro _ rfl; exact o_ne32 rfl rfl) ?_
        refine PG.op _ rfl rfl rfl (by rintro _ rfl; exact o_move (.v _) rfl) ?_
        first | refine PG.opg _ _ _ _ _ rfl rfl rfl rfl rfl rfl (fun hb => (by rintro _ rfl; exact o_move (.rd _ _) (by first | exact rfl | exact gd_on hb))) ?_ | refine PG.opg _ _ _ _ _ rfl rfl rfl rfl rfl rfl (fun hb => (by rintro _ rfl; exact o_move (.own _ _ _ _ _) (by first | exact rfl | exact gd_on hb))) ?_ | refine PG.opg _ _ _ _ _ rfl rfl rfl rfl rfl rfl (fun hb => (by rintro _ rfl; exact o_move (.v _) (by first | exact rfl | exact gd_on hb))) ?_
        first | refine PG.opg _ _ _ _ _ rfl rfl rfl rfl rfl rfl (fun hb => (by rintro _ rfl; exact o_str_rd (by first | exact rfl | exact gd_on hb) Try.underlying22 Try.underlying5 Try.underlying9)) ?_ | refine PG.opg _ _ _ _ _ rfl rfl rfl rfl rfl rfl (fun hb => (by rintro _ rfl; exact o_str_own (by first | exact rfl | exact gd_on hb) (by first | exact rfl | exact gd_on hb) (by first | exact rfl | exact gd_on hb) (by first | exact rfl | exact gd_on hb) (by first | exact rfl | exact gd_on hb) Try.underlying22 Try.underlying5 Try.underlying9)) ?_
        refine PG.opg _ _ _ _ _ rfl rfl rfl rfl rfl rfl (fun hb => (by rintro _ rfl; exact o_move (.v _) (by first | exact rfl | exact gd_on hb))) ?_
        refine PG.opg _ _ _ _ _ rfl rfl rfl rfl rfl rfl (fun hb => (by rintro _ rfl; exact o_nes (by first | exact rfl | exact gd_on hb) (by first | exact rfl | exact gd_on hb))) ?_
        first | refine PG.op _ rfl rfl rfl (by rintro _ rfl; exact o_and _ _ rfl rfl rfl) ?_ | refine PG.op _ rfl rfl rfl (by rintro _ rfl; exact o_or _ _ rfl rfl rfl) ?_ | refine PG.op _ rfl rfl rfl (by rintro _ rfl; exact o_pick _ _ _ rfl rfl rfl) ?_
        refine PG.nil ⟨by kernel_rfl, rfl, (h7 _ ?_)⟩
        refine WC.cond _ rfl (fun he => ?_) (fun he => ?_)
        · simp at he
        · refine WC.skip (hdd _ ?_)
          refine WC.region ?_
          refine RG.op _ _ rfl rfl (o_move (.v _) rfl) ?_
          first | refine RG.op _ _ rfl rfl (o_add rfl rfl (by omega) (by omega)) ?_ | refine RG.op _ _ rfl rfl (o_bin _ rfl rfl rfl) ?_
          refine RG.op _ _ rfl rfl (o_move (.v _) rfl) ?_
          refine RG.op _ _ rfl rfl (o_quo rfl rfl (by omega) (by omega) (by omega)) ?_
          first | refine RG.op _ _ rfl rfl (o_add rfl rfl (by omega) (by omega)) ?_ | refine RG.op _ _ rfl rfl (o_bin _ rfl rfl rfl) ?_
          refine RG.op _ _ rfl rfl (o_assign (.v _) rfl) ?_
          refine RG.nil (Exists.intro (k + 1 + k / 8) ⟨by omega, by omega, ?_⟩)
          exact .mk' ⟨⟨rfl, .v _⟩, trivial⟩ (by repeat (first | refine same_updO rfl ?_ | refine same_updN ?_ | refine same_updL rfl ?_ | exact same_forget rfl (same_refl _ _) | refine same_forget rfl ?_)) rfl trivial trivial
      · refine WC.exit (hb _ ?_)
        refine WC.seq fun F8 h8 => ?_
        refine WC.region ?_
        first | refine RG.op _ _ rfl rfl (o_move (.rd _ _) rfl) ?_ | refine RG.op _ _ rfl rfl (o_move (.own _ _ _ _ _) rfl) ?_ | refine RG.op _ _ rfl rfl (o_move (.v _) rfl) ?_
        refine RG.op _ _ rfl rfl (o_call Ty.cal26 (sum_c l (by omega)) ⟨.inl rfl, trivial⟩ (by repeat constructor)) ?_
        first | refine RG.op _ _ rfl rfl (o_move (.rd _ _) rfl) ?_ | refine RG.op _ _ rfl rfl (o_move (.own _ _ _ _ _) rfl) ?_ | refine RG.op _ _ rfl rfl (o_move (.v _) rfl) ?_
        refine RG.op _ _ rfl rfl (o_call Ty.cal27 (ref_c l (by omega)) ⟨.inl rfl, trivial⟩ (by repeat constructor)) ?_
        refine RG.op _ _ rfl rfl (o_eq32 rfl rfl) ?_
        refine RG.op _ _ rfl rfl (o_move (.v _) rfl) ?_
        refine RG.opg _ _ _ _ _ rfl rfl rfl rfl rfl (fun hb => o_call Ty.cal25 (told_c) (by repeat (first | exact trivial | refine And.intro (Or.inl (by first | exact rfl | exact gd_on hb)) ?_ | refine And.intro (Or.inr ⟨rfl, rfl⟩) ?_)) (by repeat constructor)) ?_
        first | refine RG.op _ _ rfl rfl (o_and _ _ rfl rfl rfl) ?_ | refine RG.op _ _ rfl rfl (o_or _ _ rfl rfl rfl) ?_ | refine RG.op _ _ rfl rfl (o_pick _ _ _ rfl rfl rfl) ?_
        refine RG.op _ _ rfl rfl (o_assign (.v _) rfl) ?_
        refine RG.nil (h8 _ ?_)
        refine WC.ret ?_
        exact Ends.one rfl (.v (.bool true)) (.bool (by simp)) rfl
end Go.Proofs.Ytmkljbcjgobjfaa
