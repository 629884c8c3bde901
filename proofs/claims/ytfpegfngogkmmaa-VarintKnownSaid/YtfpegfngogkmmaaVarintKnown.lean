/-
The chapter's examples and limits of varint: the law answers true. Closed: it has no input.
-/
import Derived.Test.YtfpegfngogkmmaaRows
import Derived.Test.YtfpegfngogkmmaaPuts
import Derived.Test.YtfpegfngogkmmaaRGet
import Derived.WalkKit
import Derived.ProofKit
import Derived.OpenShut
import Derived.ShutString
import Derived.Lib.ConvBytes
import Derived.Below
import Derived.ChangeOld
namespace Go.Proofs.Ytfpegfngogkmmaa.varintKnown
open Go.ChangeShapes Go.WideShapes Go.ChangeAt Go.RowKit
open Go.ChangeMaps (open_string shut_string)
set_option linter.unusedVariables false      -- a walk need not use every 'w<i>' (that an integer argument fits its kind)

theorem own : ownKnob Try.prog.godebug = none := by kernel_rfl

/-! ### STEP 1: THE WALK: the Go text returns true. 'Grown w w'': the world has at most new blocks (Derived/RowKit3.lean). Part the cases AHEAD of 'go_enter' where a test parts the walk; take each callee by a contract of your own. -/
/-- The examples: bytes, and the error. -/
def tab : List (List Nat × Nat) :=
  [([128], 20), ([128, 0], 21), ([], 20), ([255, 255, 255, 255, 255, 255, 255, 255, 255, 1], 0), ([255, 255, 255, 255, 255, 255, 255, 255, 255, 2], 21),
   ([255, 255, 255, 255, 255, 255, 255, 255, 255, 255], 21), ([255, 255, 255, 255, 255, 255, 255, 255, 255], 20), ([128, 128, 128, 128, 128, 128, 128, 128, 128, 0], 21), ([0, 0], 0)]
theorem tab_ok : ∀ x ∈ tab, (getV x.1).2.2 = x.2 ∧ (∀ y ∈ x.1, y < 256) ∧ x.1.length ≤ 10 := by decide +kernel
def tabCells : Array Value := (tab.flatMap fun x => [Value.string (strB x.1), Value.int .i64 (x.2 : Int)]).toArray
theorem tab_cell (k : Nat) (hk : k < 9) : ∃ s : List Nat, ∃ e : Nat, (s, e) ∈ tab ∧ tabCells[k * 2]? = some (.string (strB s)) ∧ tabCells[k * 2 + 1]? = some (.int .i64 (e : Int)) := by
  have : k = 0 ∨ k = 1 ∨ k = 2 ∨ k = 3 ∨ k = 4 ∨ k = 5 ∨ k = 6 ∨ k = 7 ∨ k = 8 := by omega
  rcases this with rfl | rfl | rfl | rfl | rfl | rfl | rfl | rfl | rfl
  all_goals exact ⟨_, _, by simp [tab], rfl, rfl⟩
theorem strB_size (l : List Nat) : (strB l).size = l.length := by rw [strB, strOfNums_size]; simp
theorem strB_data (l : List Nat) : (strB l).data.toList = l.map UInt8.ofNat := by rw [strB, strOfNums_data]; simp
theorem reads_str (w : World) (l : List Nat) (hl : ∀ x ∈ l, x < 256) :
    Reads (Lib.bytesWorld w 5 (strB l)) (Lib.bytesWorld w 5 (strB l)).heap.size 1 (some ⟨w.heap.size, 0, none⟩) (strB l).size (bytesV l) := by
  refine ⟨by rw [bytesV_len, strB_size]; omega, fun _ => ⟨_, rfl, by rw [Lib.bytesWorld_size]; show w.heap.size < w.heap.size + 1; omega, fun j u hu => ?_⟩⟩
  rw [bytesV_at] at hu
  obtain ⟨x, hx, rfl⟩ := Option.map_eq_some_iff.1 hu
  have hj := (List.getElem?_eq_some_iff.1 hx).1
  rw [Addr.add_lit, Nat.zero_add, Lib.bytesWorld_cell _ _ _ _ (by rw [strB_size]; exact hj), strB_data]
  have := hl x (List.mem_of_getElem? hx)
  simp [List.getD, hx]
  omega
theorem below_bytes (w : World) (s : ByteArray) : Below w.heap.size w (Lib.bytesWorld w 5 s) :=
  ⟨by unfold Lib.bytesWorld World.freeze; split <;> rfl, by unfold Lib.bytesWorld World.freeze; split <;> rfl, by unfold Lib.bytesWorld World.freeze; split <;> rfl, by rw [Lib.bytesWorld_size]; omega, fun k hk => Lib.bytesWorld_at_old _ _ _ _ hk⟩
theorem own_form {w : World} {B n : Nat} {e : TypeId} {v : Value} {xs : List Value} (h : w.ownsRow B e 1 v n xs) : ∃ A c, v = .slice A n c := by
  rcases h.2 with ⟨rfl, rfl⟩ | ⟨g, cap, cur, rfl, _⟩
  · exact ⟨_, _, rfl⟩
  · exact ⟨_, _, rfl⟩
theorem walk  (w : World) :
    Calls Try.prog 9 #[] w fun e w' => e = .returned (.bool true) ∧ Below w.heap.size w w' := by
  go_enter Try.func9, Try.ntmps9
  go_wp2_with fail
  obtain ⟨W0, hW0⟩ : ∃ W, W = w.alloc (.cells tabCells 40) := ⟨_, rfl⟩
  have hb0 : Below w.heap.size w W0 := by rw [hW0]; exact (Below.refl _ _).alloc (Nat.le_refl _) _
  have hblk : W0.heap[w.heap.size]? = some (.cells tabCells 40 (0, 0)) := by rw [hW0]; exact heap_alloc_new w _
  have hsz : w.heap.size < W0.heap.size := by rw [hW0]; simp
  show Code.wp Try.prog _ _ _ (w.alloc (.cells tabCells 40))
  rw [← hW0]
  have HB0 := Lib.hid hb0
  have HK := Lib.hid hblk
  have HS := Lib.hid hsz
  clear hW0 hb0 hblk hsz
  go_loopw [2, 3, 4, 5] (fun i v n e wr => ∃ (k : Nat), k ≤ 9 ∧ i = .int .i64 (k : Int) ∧ Hid (Below W0.heap.size W0 wr)) (fun i _ _ _ _ => 9 - (intOf i).toNat)
  case atStart => exact ⟨0, by omega, rfl, Below.refl _ _⟩
  case round =>
    obtain ⟨k, hk, rfl, Hb⟩ := hrel
    by_cases h9 : k < 9
    · obtain ⟨s, er, hmem, hc0, hc1⟩ := tab_cell k h9
      obtain ⟨t1, t2, t3⟩ := tab_ok _ hmem
      have hblk : wr.heap[w.heap.size]? = some (.cells tabCells 40 (0, 0)) := (Hb.out.block _ HS.out).trans HK.out
      have hlt : w.heap.size < wr.heap.size := Nat.lt_of_lt_of_le HS.out Hb.out.size
      have hs0 : wr.cell? ⟨w.heap.size, k * 2, none⟩ = some (.string (strB s)) := by rw [cell_of_row _ _ _ _ _ _ hblk]; exact hc0
      have hs1 : (Lib.bytesWorld wr 5 (strB s)).cell? ⟨w.heap.size, k * 2 + 1, none⟩ = some (.int .i64 (er : Int)) := by
        rw [Lib.bytesWorld_old _ _ _ _ hlt, cell_of_row _ _ _ _ _ _ hblk]; exact hc1
      have hbb := (Hb.out.trans ((below_bytes wr (strB s)).mono Hb.out.size))
      have HBB := Lib.hid hbb
      have HR := Lib.hid (reads_str wr s t2)
      have HT := Lib.hid t1
      have HT2 := Lib.hid t2
      have HT3 := Lib.hid t3
      have hcv := Lib.run_convert_string_bytes (P := Try.prog) wr 9 22 5 (strB s) Try.underlying9 Try.underlying22 Try.underlying5
      clear hc0 hc1 hmem t1 t2 t3 hblk hlt hbb
      go_wp2_with fail
      refine (get_any _ _ _ s _ (strB_size s).symm HR.out HT2.out (by rw [strB_size]; have := HT3.out; omega)).mono ?_
      rintro e w' ⟨rfl, rfl⟩
      rw [HT.out]
      clear hcv hs0
      go_wp2_with fail
      go_roundw
      case rel => exact ⟨k + 1, by omega, by go_num, HBB.out⟩
      case measure => simp [intOf]; omega
    · have HE0 := Lib.hid (show enc 0 = [0] from enc_small (by omega))
      have HE1 := Lib.hid (show enc 127 = [127] from enc_small (by omega))
      have HE2 := Lib.hid (show enc 128 = [128, 1] by rw [enc_big (by omega), enc_small (by omega)])
      have HE3 := Lib.hid (show (enc 18446744073709551615).length = 10 by
        iterate 9 rw [enc_big (by omega)]
        rw [enc_small (by omega)]; rfl)
      have hs0 : (strB [0]).toList = [0] := by rw [strB_toList]; rfl
      have hs1 : (strB [127]).toList = [127] := by rw [strB_toList]; rfl
      have hs2 : (strB [128, 1]).toList = [128, 1] := by rw [strB_toList]; rfl
      go_wp2_with fail
      refine (put_any none 0 0 [] 0 _ rfl Reads.none_ (by omega) (by omega)).mono ?_
      rintro e w1 ⟨v1, rfl, hown1, hb1⟩
      rw [List.nil_append, HE0.out] at hown1
      have hc1 := conv_own hown1
      have Hb1 := Lib.hid hb1
      clear hown1 hb1
      go_wp2_with fail
      refine (put_any none 0 0 [] 127 _ rfl Reads.none_ (by omega) (by omega)).mono ?_
      rintro e w2 ⟨v2, rfl, hown2, hb2⟩
      rw [List.nil_append, HE1.out] at hown2
      have hc2 := conv_own hown2
      have Hb2 := Lib.hid hb2
      clear hown2 hb2 hc1
      go_wp2_with fail
      refine (put_any none 0 0 [] 128 _ rfl Reads.none_ (by omega) (by omega)).mono ?_
      rintro e w3 ⟨v3, rfl, hown3, hb3⟩
      rw [List.nil_append, HE2.out] at hown3
      have hc3 := conv_own hown3
      have Hb3 := Lib.hid hb3
      clear hown3 hb3 hc2
      go_wp2_with fail
      refine (put_any none 0 0 [] 18446744073709551615 _ rfl Reads.none_ (by omega) (by omega)).mono ?_
      rintro e w4 ⟨v4, rfl, hown4, hb4⟩
      rw [List.nil_append, HE3.out] at hown4
      obtain ⟨A4, c4, rfl⟩ := own_form hown4
      have Hb4 := Lib.hid hb4
      clear hown4 hb4 hc3
      go_wp2_with fail
      refine (zig_any _ _ (by omega) (by omega)).mono ?_
      rintro e w' ⟨rfl, rfl⟩
      rw [show zigS (-9223372036854775808) = 18446744073709551615 from by decide]
      go_wp2_with fail
      refine (zag_any _ _ (by omega) (by omega)).mono ?_
      rintro e w' ⟨rfl, rfl⟩
      rw [show zagS 18446744073709551615 = -9223372036854775808 from by decide]
      go_wp2_with fail
      refine (zig_any _ _ (by omega) (by omega)).mono ?_
      rintro e w' ⟨rfl, rfl⟩
      rw [show zigS 9223372036854775807 = 18446744073709551614 from by decide]
      go_wp2_with fail
      refine (puts_any _).mono ?_
      rintro e w5 ⟨rfl, hb5⟩
      have Hb5 := Lib.hid hb5
      clear hb5
      go_wp2_with fail
      go_ret
      refine ⟨rfl, ?_⟩
      have s0 := HB0.out
      have s1 := Hb.out
      have s2 := Hb1.out
      have s3 := Hb2.out
      have s4 := Hb3.out
      have s5 := Hb4.out
      have s6 := Hb5.out
      have z1 := s0.size
      have z2 := s1.size
      have z3 := s2.size
      have z4 := s3.size
      have z5 := s4.size
      have z6 := s5.size
      exact s0.trans ((s1.mono (by omega)).trans ((s2.mono (by omega)).trans ((s3.mono (by omega)).trans ((s4.mono (by omega)).trans ((s5.mono (by omega)).trans (s6.mono (by omega)))))))

/-! ### THE ROW's STEP: WRITTEN OUT: LEAVE IT -/
set_option maxRecDepth 100000 in
theorem lifted (os : Os) (started : os.Started) (H : Type) (enc : TypeId × Value → H) :
    ReturnsInHanded {} Try.checked os 9 .any (Rows.varintKnownSpec.pre6 enc Try.prog Try.f9 Rows.varintKnownRow.domain false) (Rows.varintKnownSpec.post enc Try.prog Try.f9 false true false false) := by
  refine returnsInHanded_of_change (C := Try.checked) own started (by kernel_rfl) Try.func9
    (ChangeSpec.witness6 (enc := enc) (C := Try.checked) false ⟨#[], #[], []⟩ 8 (by kernel_rfl) (by kernel_rfl) (by kernel_rfl) (by kernel_rfl)) ?_
  intro W base args ds gs before hval0 hW hcnd _
  have hval : ∀ (j : Nat) t v, Try.f9.params[j]? = some t → args[j]? = some v → Value.okWide Try.prog W .any base t v := hval0
  have hW' := hW
  obtain ⟨p, q, hA0, hV, rfl, hfz, hnd⟩ := hW
  have hA : DataW.TrodAll enc Try.prog W 0 (fun _ => true) true Try.f9.params.toList args.toList ds p := hA0
  rw [Try.params9] at hA hval
  obtain ⟨rfl, rfl, rfl⟩ := trodAll_none hA
  obtain ⟨rfl, rfl⟩ := trodVars_none hV
  clear hA0 hval0
  refine (walk  W).mono fun e W' ⟨he, hg⟩ => ?_
  subst he
  exact ⟨_, rfl, _, _, _, [], _, [], hW', trodAll_mk1 (shut_bool Try.underlying4 _), rfl, rfl, hg.frame _, fun h => by cases h⟩

theorem over : Rows.varintKnownRow.holds Try.pinned (OpenSpec.ofChange Rows.varintKnownSpec) :=
  OpenClaim.holds_of_wide 9 Try.f9 rfl rfl rfl rfl rfl rfl rfl ⟨rfl, rfl, rfl, rfl, rfl⟩ rfl rfl rfl rfl rfl (by kernel_rfl) Try.func9 (by kernel_rfl)
    (of_decide_eq_true (by kernel_rfl)) (by unfold Func.isWrapper; first | (rw [if_pos (by decide +kernel)]; kernel_rfl) | (rw [if_neg (by decide +kernel)]; exact ⟨rfl, rfl⟩))
    (fun os started H enc _ => lifted os started H enc)

/-- The statement. -/
theorem proved : Rows.VarintKnownSaid :=
  over
#print axioms proved
end Go.Proofs.Ytfpegfngogkmmaa.varintKnown
