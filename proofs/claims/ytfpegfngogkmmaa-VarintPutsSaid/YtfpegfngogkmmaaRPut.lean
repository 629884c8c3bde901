/-
  What the document's own Put answers: the number's bytes, in new memory. Condition: none but that the number has 64 bits.
-/
import Derived.Test.YtfpegfngogkmmaaPut
namespace Go.Proofs.Ytfpegfngogkmmaa
open Go.RowKit

set_option maxRecDepth 100000 in
set_option maxHeartbeats 800000 in
theorem rput_any (v : Nat) (w : World) (hv : v ≤ 18446744073709551615) :
    Calls Try.prog 16 #[.int .u64 (v : Int)] w (OwnRes w.heap.size w (enc v)) := by
  have hl10 := enc_len10 v hv
  have HL := Lib.hid hl10
  have HV := Lib.hid hv
  clear hl10 hv
  go_enter Try.func16, Try.ntmps16
  go_wp2_with fail
  go_loopw [0, 3] (fun x o wr => ∃ (u : Nat) (pre : List Nat), x = .int .u64 (u : Int) ∧ u ≤ 18446744073709551615 ∧ pre.length ≤ 10 ∧ Hid (pre ++ enc u = enc v) ∧ wr.ownsRow w.heap.size 5 1 o pre.length (bytesV pre) ∧ Below w.heap.size w wr) (fun x _ _ => (intOf x).toNat)
  case atStart => exact ⟨v, [], rfl, HV.out, by simp, rfl, World.ownsRow_nil _ _ _ _, Below.refl _ _⟩
  case round =>
    obtain ⟨u, pre, rfl, hub, hpl, He, hown, hbw⟩ := hrel
    by_cases h128 : u < 128
    · have hz : ((u : Int) / 128 == 0) = true := by simp; omega
      go_wp2_with (at_builtin; refine wpList_push tyBytes rfl _ _ rfl w.heap.size _ _ _ (.int .u8 ((u : Int) % 128)) hown rfl rfl rfl hbw.size (by omega) (by unfold maxLen; omega) ?_)
      intro v' w3 hown3 hb3 _ _
      go_wp2_with fail
      go_ret
      refine ⟨v', rfl, ?_, hb3 _ hbw⟩
      have e : enc v = pre ++ [u] := by rw [← He.out, enc_small h128]
      rw [e]
      rw [show (u : Int) % 128 = (u : Int) from by omega] at hown3
      simpa [bytesV_app, bytesV, Nat.add_assoc] using hown3
    · have hz : ((u : Int) / 128 == 0) = false := by simp; omega
      obtain ⟨q, hq⟩ : ∃ q, q = u % 128 + 128 := ⟨_, rfl⟩
      have hor : (u : Int) % 128 + 128 = (q : Int) := by omega
      have HQ := Lib.hid hq
      clear hq
      go_wp2_with (at_builtin; refine wpList_push tyBytes rfl _ _ rfl w.heap.size _ _ _ (.int .u8 q) hown rfl rfl rfl hbw.size (by omega) (by unfold maxLen; omega) ?_)
      intro v' w3 hown3 hb3 _ _
      go_wp2_with fail
      go_roundw
      case rel => 
        refine ⟨u / 128, pre ++ [q], by go_num, by omega, ?_, ?_, ?_, hb3 _ hbw⟩
        · have := HL.out; rw [← He.out, enc_big (u := u) (by omega)] at this; have := enc_pos (u / 128); simp at *; omega
        · show _ = _
          rw [← He.out, enc_big (u := u) (by omega), HQ.out]; simp
        · simpa [bytesV_app, bytesV, Nat.add_assoc] using hown3
      case measure => simp [intOf]; omega
end Go.Proofs.Ytfpegfngogkmmaa
