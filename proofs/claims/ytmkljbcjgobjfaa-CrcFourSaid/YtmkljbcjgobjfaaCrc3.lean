/-
  The laws of crc: what each hands back. No condition.
-/
import Derived.Test.YtmkljbcjgobjfaaCrc2
namespace Go.Proofs.Ytmkljbcjgobjfaa
open Go.RowKit Go.DL

def digits9 : List UInt8 := [49, 50, 51, 52, 53, 54, 55, 56, 57]
def four255 : List UInt8 := [255, 255, 255, 255]
theorem digits_sum : sumQ digits9 = 4236843288#32 := by decide +kernel
theorem four_sum : sumQ four255 = 4294967295#32 := by decide +kernel
theorem told_c : Fun Try.prog 25 [] (· = .v (.bool true)) := by
  refine Fun.of Try.func25 rfl (Nat.le_of_ble_eq_true rfl) fun C => ?_
  refine WC.seq fun F1 h1 => ?_
  refine WC.region ?_
  refine RG.op _ _ rfl rfl (o_assign (.v _) rfl) ?_
  refine RG.nil (h1 _ ?_)
  refine WC.seq fun F2 h2 => ?_
  refine WC.region ?_
  refine RG.op _ _ rfl rfl (o_litO Try.underlying22 Ty.inf5 rfl rfl rfl rfl rfl rfl) ?_
  refine RG.op _ _ rfl rfl (o_keep rfl rfl rfl rfl (by decide) Try.underlying22 Try.underlying5 rfl) ?_
  refine RG.op _ _ rfl rfl (o_call Ty.cal26 (sum_c digits9 (by decide)) ⟨.inl rfl, trivial⟩ (by repeat constructor)) ?_
  refine RG.op _ _ rfl rfl (o_eq32 (y := 4236843288#32) rfl rfl) ?_
  refine RG.op _ _ rfl rfl (o_move (.v _) rfl) ?_
  refine RG.opg _ _ _ _ _ rfl rfl rfl rfl rfl (fun hb => o_litR Try.underlying22 Ty.inf5 (by first | exact rfl | exact gd_on hb) (by first | exact rfl | exact gd_on hb) (by first | exact rfl | exact gd_on hb) (by first | exact rfl | exact gd_on hb) (by first | exact rfl | exact gd_on hb)) ?_
  refine RG.opg _ _ _ _ _ rfl rfl rfl rfl rfl (fun hb => o_call Ty.cal26 (sum_c four255 (by decide)) ⟨.inl (by first | exact rfl | exact gd_on hb), trivial⟩ (by repeat constructor)) ?_
  refine RG.opg _ _ _ _ _ rfl rfl rfl rfl rfl (fun hb => o_eq32 (y := 4294967295#32) (by first | exact rfl | exact gd_on hb) (by first | exact rfl | exact gd_on hb)) ?_
  first | refine RG.op _ _ rfl rfl (o_and _ _ rfl rfl rfl) ?_ | refine RG.op _ _ rfl rfl (o_or _ _ rfl rfl rfl) ?_ | refine RG.op _ _ rfl rfl (o_pick _ _ _ rfl rfl rfl) ?_
  refine RG.op _ _ rfl rfl (o_assign (.v _) rfl) ?_
  refine RG.nil (h2 _ ?_)
  refine WC.ret ?_
  exact Ends.one rfl (.v (.bool true)) (by rw [show (true : Bool) = ((sumQ digits9 == 4236843288#32) && (sumQ four255 == 4294967295#32)) by rw [digits_sum, four_sum]; rfl]; exact .v _) rfl
theorem one_sum : sumQ [0] = 2985771083#32 := by decide +kernel
theorem known_c : Fun Try.prog 13 [] (· = .v (.bool true)) := by
  refine Fun.of Try.func13 rfl (Nat.le_of_ble_eq_true rfl) fun C => ?_
  refine WC.seq fun F3 h3 => ?_
  refine WC.region ?_
  refine RG.op _ _ rfl rfl (o_assign (.v _) rfl) ?_
  refine RG.nil (h3 _ ?_)
  refine WC.seq fun F4 h4 => ?_
  refine WC.region ?_
  refine RG.op _ _ rfl rfl (o_call Ty.cal26 (sum_c [] (by decide)) ⟨.inr ⟨rfl, rfl⟩, trivial⟩ (by repeat constructor)) ?_
  refine RG.op _ _ rfl rfl (o_eq32 (y := 0#32) rfl rfl) ?_
  refine RG.op _ _ rfl rfl (o_move (.v _) rfl) ?_
  refine RG.opg _ _ _ _ _ rfl rfl rfl rfl rfl (fun hb => o_litR Try.underlying22 Ty.inf5 (by first | exact rfl | exact gd_on hb) (by first | exact rfl | exact gd_on hb) (by first | exact rfl | exact gd_on hb) (by first | exact rfl | exact gd_on hb) (by first | exact rfl | exact gd_on hb)) ?_
  refine RG.opg _ _ _ _ _ rfl rfl rfl rfl rfl (fun hb => o_call Ty.cal26 (sum_c [0] (by decide)) ⟨.inl (by first | exact rfl | exact gd_on hb), trivial⟩ (by repeat constructor)) ?_
  refine RG.opg _ _ _ _ _ rfl rfl rfl rfl rfl (fun hb => o_eq32 (y := 2985771083#32) (by first | exact rfl | exact gd_on hb) (by first | exact rfl | exact gd_on hb)) ?_
  first | refine RG.op _ _ rfl rfl (o_and _ _ rfl rfl rfl) ?_ | refine RG.op _ _ rfl rfl (o_or _ _ rfl rfl rfl) ?_ | refine RG.op _ _ rfl rfl (o_pick _ _ _ rfl rfl rfl) ?_
  refine RG.op _ _ rfl rfl (o_move (.v _) rfl) ?_
  refine RG.opg _ _ _ _ _ rfl rfl rfl rfl rfl (fun hb => o_call Ty.cal25 (told_c) (by repeat (first | exact trivial | refine And.intro (Or.inl (by first | exact rfl | exact gd_on hb)) ?_ | refine And.intro (Or.inr ⟨rfl, rfl⟩) ?_)) (by repeat constructor)) ?_
  first | refine RG.op _ _ rfl rfl (o_and _ _ rfl rfl rfl) ?_ | refine RG.op _ _ rfl rfl (o_or _ _ rfl rfl rfl) ?_ | refine RG.op _ _ rfl rfl (o_pick _ _ _ rfl rfl rfl) ?_
  refine RG.op _ _ rfl rfl (o_assign (.v _) rfl) ?_
  refine RG.nil (h4 _ ?_)
  refine WC.ret ?_
  exact Ends.one rfl (.v (.bool true)) (by rw [show (true : Bool) = (((sumQ [] == 0#32) && (sumQ [0] == 2985771083#32)) && true) by rw [one_sum]; rfl]; exact .v _) rfl
end Go.Proofs.Ytmkljbcjgobjfaa
