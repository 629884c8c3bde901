/-
  'puts' of the layer's laws answers true, and a slice of bytes as a string. No condition.
-/
import Derived.Test.YtfpegfngogkmmaaGet
import Derived.Test.YtfpegfngogkmmaaZig
import Derived.Laws.BytesArg
import Derived.Laws.BytesString
namespace Go.Proofs.Ytfpegfngogkmmaa
open Go.RowKit

def TrueB (B : Nat) (w : World) (e : Ending) (w' : World) : Prop := e = .returned (.bool true) ∧ Below B w w'
theorem reads_lit (w : World) (l : List Nat) (n : Nat) (hl : l.length = n) (cs : Array Value) (hcs : cs.toList = bytesV l) (g : Nat) (hg : g = w.heap.size) :
    Reads (w.alloc (.cells cs 5)) (w.alloc (.cells cs 5)).heap.size 1 (some ⟨g, 0, none⟩) n (bytesV l) := by
  subst hg
  refine ⟨by rw [bytesV_len]; omega, fun _ => ⟨_, rfl, by simp, fun j u hu => ?_⟩⟩
  rw [Addr.add_lit, World.cell?_alloc_at _ _ _ _ rfl]
  simp [← hcs] at hu
  simp [hu]
def strB (l : List Nat) : ByteArray := strOfNums (l.map fun (n : Nat) => (n : Int))
theorem conv_own {w : World} {B n : Nat} {v : Value} {l : List Nat} (h : w.ownsRow B 5 1 v n (bytesV l)) :
    (convert 22 9 v).run Try.prog w = .ok (.string (strB l)) w := by
  have hl : l.length = n := by have := h.1; rw [bytesV_len] at this; omega
  rcases h.2 with ⟨rfl, h0⟩ | ⟨g, cap, cur, rfl, _⟩
  · have : l = [] := List.eq_nil_of_length_eq_zero (by omega)
    subst this
    rw [run_convert_bytes_nil w 22 5 Try.underlying22 Try.underlying5 0 0 9 Try.underlying9]
    rfl
  · refine run_convert_bytes_arg w 22 5 Try.underlying22 Try.underlying5 g 0 n cap (l.map fun (n : Nat) => (n : Int)) (by simpa using hl) (fun i hi => ?_) 9 Try.underlying9
    have hc := h.cells (g := g) rfl
    have := hc i (.int .u8 ((l.map fun (n : Nat) => (n : Int)).getD i 0)) (by rw [bytesV_at]; simp [List.getD, show i < l.length by omega])
    simpa [Addr.add_lit] using this
theorem get_known : getV [172, 2, 255] = (300, 2, 0) := by rfl
theorem enc_known : [255] ++ enc 300 = [255, 172, 2] := by rw [enc_big (by omega), enc_small (by omega)]; rfl
theorem strB_toList (l : List Nat) : (strB l).toList = l.map UInt8.ofNat := by
  rw [ByteArray.toList_eq, strB, strOfNums_data]; simp
theorem str_known : (strB [255, 172, 2]).toList = [255, 172, 2] := by rw [strB_toList]; rfl
theorem puts_any (w : World) : Calls Try.prog 17 #[] w (TrueB w.heap.size w) := by
  have HG := Lib.hid get_known
  have HE := Lib.hid enc_known
  have hs := str_known
  have hz1 : zigS (-1) = 1 := by decide
  have hz2 : zagS 3 = -2 := by decide
  go_enter Try.func17, Try.ntmps17
  go_wp2_with fail
  refine (get_any _ 3 3 [172, 2, 255] _ rfl (reads_lit _ _ _ rfl _ rfl _ (by simp)) (by decide) (by omega)).mono ?_
  rintro e w' ⟨rfl, rfl⟩
  rw [HG.out]
  go_wp2_with fail
  refine (put_any _ 1 1 [255] 300 _ rfl (reads_lit _ _ _ rfl _ rfl _ (by simp)) (by omega) (by omega)).mono ?_
  rintro e w' ⟨v', rfl, hown, hb⟩
  rw [HE.out] at hown
  have hcv := conv_own hown
  clear hown
  have Hb := Lib.hid hb
  clear hb
  go_wp2_with fail
  refine (zig_any _ _ (by omega) (by omega)).mono ?_
  rintro e w' ⟨rfl, rfl⟩
  rw [hz1]
  go_wp2_with fail
  refine (zag_any _ _ (by omega) (by omega)).mono ?_
  rintro e w' ⟨rfl, rfl⟩
  rw [hz2]
  go_wp2_with fail
  go_ret
  refine ⟨rfl, ?_⟩
  have := Hb.out
  exact (((Below.refl _ _).alloc (Nat.le_refl _) _).alloc (by simp) _).trans (this.mono (by simp; omega))
end Go.Proofs.Ytfpegfngogkmmaa
