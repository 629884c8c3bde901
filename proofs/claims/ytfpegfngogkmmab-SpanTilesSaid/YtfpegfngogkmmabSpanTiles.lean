/-
Buckets tile all times: the law answers true whatever the two numbers. No condition.
-/
import Derived.Test.YtfpegfngogkmmabRows
import Derived.Test.YtfpegfngogkmmabS4
import Derived.WalkKit
import Derived.ProofKit
import Derived.OpenShut
import Derived.ShutString
import Derived.Below
import Derived.ChangeOld
namespace Go.Proofs.Ytfpegfngogkmmab.spanTiles
open Go.ChangeShapes Go.WideShapes Go.ChangeAt Go.RowKit
open Go.ChangeMaps (open_string shut_string)
set_option linter.unusedVariables false      -- a walk need not use every 'w<i>' (that an integer argument fits its kind)

theorem own : ownKnob Try.prog.godebug = none := by kernel_rfl

/-! ### STEP 1: THE WALK: the Go text returns true. 'Grown w w'': the world has at most new blocks (Derived/RowKit3.lean). Part the cases AHEAD of 'go_enter' where a test parts the walk; take each callee by a contract of your own. -/
theorem floor_add (t n : Int) : floorS (t + n) n = floorS t n + n := by unfold floorS; rw [Int.add_emod_right]; omega
theorem floor_mod {t n : Int} (hn : 1 ≤ n) : floorS t n % n = 0 := by
  unfold floorS
  rw [Int.sub_emod, Int.emod_emod_of_dvd _ (Int.dvd_refl n)]; simp
theorem floor_floor {t n : Int} (hn : 1 ≤ n) : floorS (floorS t n) n = floorS t n := by
  have := floor_mod (t := t) hn
  generalize floorS t n = f at *
  unfold floorS; omega
theorem ceil_floor {t n : Int} (hn : 1 ≤ n) : ceilS (floorS t n) n = floorS t n := by
  unfold ceilS; rw [floor_floor hn, if_neg (by omega)]
theorem errS_in {m t : Int} (hm : widthB m = true) (h1 : -4611687117939015680 ≤ t) (h2 : t ≤ 4611687117939015679) : errS m [t] = 0 :=
  errS_zero hm (by simp [boundB]; omega)
theorem time_iff (x : Int) : timeB x = true ↔ -4611686018427387904 ≤ x ∧ x ≤ 4611686018427387903 := by simp [timeB]
theorem walk (a0 : Int) (a1 : Int) (w0 : (Lit.int .i64 a0).wf = true) (w1 : (Lit.int .i64 a1).wf = true) (w : World) :
    Calls Try.prog 7 #[.int .i64 a0, .int .i64 a1] w fun e w' => e = .returned (.bool true) ∧ Below w.heap.size w w' := by
  obtain ⟨l0, u0⟩ := bounds_i64 w0
  obtain ⟨l1, u1⟩ := bounds_i64 w1
  clear w0 w1
  obtain ⟨s, hs⟩ : ∃ s, s = wrap64 (a0 + a1) := ⟨_, rfl⟩
  cases ht : timeB a0
  · have HT := Lib.hid ht
    clear ht
    go_enter Try.func7, Try.ntmps7
    go_wp2_with fail
    refine (time_any _ _).mono ?_
    rintro e w' ⟨rfl, rfl⟩
    rw [HT.out]
    go_wp2_with fail
    refine (wakes_any _).mono ?_
    rintro e w' ⟨rfl, hb⟩
    have Hb := Lib.hid hb
    clear hb
    go_wp2_with fail
    go_ret
    exact ⟨rfl, Hb.out⟩
  · have HT := Lib.hid ht
    clear ht
    cases hts : timeB (wrap64 (a0 + a1))
    · have HTS := Lib.hid hts
      clear hts
      go_enter Try.func7, Try.ntmps7
      go_wp2_with fail
      refine (time_any _ _).mono ?_
      rintro e w' ⟨rfl, rfl⟩
      rw [HT.out]
      go_wp2_with fail
      refine (time_any _ _).mono ?_
      rintro e w' ⟨rfl, rfl⟩
      rw [HTS.out]
      go_wp2_with fail
      refine (wakes_any _).mono ?_
      rintro e w' ⟨rfl, hb⟩
      have Hb := Lib.hid hb
      clear hb
      go_wp2_with fail
      go_ret
      exact ⟨rfl, Hb.out⟩
    · have HTS := Lib.hid hts
      clear hts
      cases hw : widthB a1
      · have HW := Lib.hid hw
        clear hw
        go_enter Try.func7, Try.ntmps7
        go_wp2_with fail
        refine (time_any _ _).mono ?_
        rintro e w' ⟨rfl, rfl⟩
        rw [HT.out]
        go_wp2_with fail
        refine (time_any _ _).mono ?_
        rintro e w' ⟨rfl, rfl⟩
        rw [HTS.out]
        go_wp2_with fail
        refine (width_any _ _).mono ?_
        rintro e w' ⟨rfl, rfl⟩
        rw [HW.out]
        go_wp2_with fail
        refine (wakes_any _).mono ?_
        rintro e w' ⟨rfl, hb⟩
        have Hb := Lib.hid hb
        clear hb
        go_wp2_with fail
        go_ret
        exact ⟨rfl, Hb.out⟩
      · have HW := Lib.hid hw
        obtain ⟨n1, n2⟩ := (width_iff a1).1 hw
        obtain ⟨t1, t2⟩ := (time_iff a0).1 HT.out
        have hww : wrap64 (a0 + a1) = a0 + a1 := by unfold wrap64; omega
        obtain ⟨r1, r2⟩ := (time_iff (a0 + a1)).1 (by rw [← hww]; exact HTS.out)
        obtain ⟨b1, b2⟩ := floorS_bd (t := a0) n1
        obtain ⟨f, hf⟩ : ∃ f, f = floorS a0 a1 := ⟨_, rfl⟩
        rw [← hf] at b1 b2
        have E1 := Lib.hid (show bucketR a0 a1 = ((f, f + a1), 0) by rw [bucketR, if_pos (errS_in hw (by omega) (by omega)), hf])
        have E2 := Lib.hid (show bucketR (a0 + a1) a1 = ((f + a1, f + a1 + a1), 0) by rw [bucketR, if_pos (errS_in hw (by omega) (by omega)), floor_add, hf])
        have E3 := Lib.hid (show wholeR floorS f a1 = (f, 0) by rw [wholeR, if_pos (errS_in hw (by omega) (by omega)), hf, floor_floor n1])
        have E4 := Lib.hid (show wholeR ceilS a0 a1 = (ceilS a0 a1, 0) by rw [wholeR, if_pos (errS_in hw (by omega) (by omega))])
        have E5 := Lib.hid (show wholeR ceilS f a1 = (f, 0) by rw [wholeR, if_pos (errS_in hw (by omega) (by omega)), hf, ceil_floor n1])
        have hc : (a0 = f ∧ ceilS a0 a1 = a0) ∨ (((a0 : Int) == f) = false ∧ ceilS a0 a1 = f + a1) := by
          by_cases h : f < a0
          · exact .inr ⟨by simp; omega, by rw [ceilS, ← hf, if_pos h]⟩
          · exact .inl ⟨by omega, by rw [ceilS, ← hf, if_neg h]; omega⟩
        have HC := Lib.hid hc
        clear hc hw hww hf hs
        have HTS' := Lib.hid (show timeB (a0 + a1) = true from (time_iff _).2 ⟨r1, r2⟩)
        go_enter Try.func7, Try.ntmps7
        go_wp2_with fail
        refine (time_any _ _).mono ?_
        rintro e w' ⟨rfl, rfl⟩
        rw [HT.out]
        go_wp2_with fail
        refine (time_any _ _).mono ?_
        rintro e w' ⟨rfl, rfl⟩
        rw [HTS'.out]
        go_wp2_with fail
        refine (width_any _ _).mono ?_
        rintro e w' ⟨rfl, rfl⟩
        rw [HW.out]
        go_wp2_with fail
        refine (Bucket_any _ _ _).mono ?_
        rintro e w1 ⟨rfl, hb1⟩
        rw [E1.out]
        simp only [tupS]
        have Hb1 := Lib.hid hb1
        clear hb1
        go_wp2_with fail
        refine (Bucket_any _ _ _).mono ?_
        rintro e w2 ⟨rfl, hb2⟩
        rw [E2.out]
        simp only [tupS]
        obtain ⟨c0, c1, -, -⟩ := res_cells (g := w1.heap.size) _ _ _ rfl hb2
        have hz2 := hb2.size
        simp at hz2
        have Hb2 := Lib.hid hb2
        clear hb2
        have c0' := cell_alloc c0
        go_wp2_with fail
        refine (Floor_any _ _ _).mono ?_
        rintro e w3 ⟨rfl, hb3⟩
        rw [E3.out]
        simp only [tupV]
        obtain ⟨d0, d1, -, -⟩ := res_cells (g := w2.heap.size) _ _ _ rfl hb3
        replace c0 := cell_below (cell_alloc c0 _) hb3
        replace c1 := cell_below (cell_alloc c1 _) hb3
        have Hb3 := Lib.hid ((alloc1 _ _).trans (hb3.mono (by simp)))
        clear hb3 c0'
        go_wp2_with fail
        refine (Ceil_any _ _ _).mono ?_
        rintro e w4 ⟨rfl, hb4⟩
        rw [E4.out]
        simp only [tupV]
        replace c0 := cell_below c0 hb4
        replace c1 := cell_below c1 hb4
        replace d0 := cell_below d0 hb4
        replace d1 := cell_below d1 hb4
        have Hb4 := Lib.hid hb4
        clear hb4
        go_wp2_with fail
        refine (Ceil_any _ _ _).mono ?_
        rintro e w5 ⟨rfl, hb5⟩
        rw [E5.out]
        simp only [tupV]
        replace c0 := cell_below c0 hb5
        replace c1 := cell_below c1 hb5
        replace d0 := cell_below d0 hb5
        replace d1 := cell_below d1 hb5
        have Hb5 := Lib.hid hb5
        clear hb5
        have z1 := Hb1.out.size
        have z2 := Hb2.out.size
        simp at z2
        have z3 := Hb3.out.size
        have z4 := Hb4.out.size
        have B5 := Lib.hid (Hb1.out.trans (((((alloc1 _ _).trans (Hb2.out.mono (by simp))).mono z1).trans ((Hb3.out.mono (by omega)).trans ((Hb4.out.mono (by omega)).trans (Hb5.out.mono (by omega)))))))
        rcases HC.out with ⟨h, hce⟩ | ⟨h, hce⟩
        · rw [hce, h]
          rw [h] at *
          clear hce h
          go_wp2_with fail
          refine (wakes_any _).mono ?_
          rintro e w6 ⟨rfl, hb6⟩
          have Hb6 := Lib.hid (B5.out.trans (hb6.mono (by have := B5.out.size; omega)))
          clear hb6
          go_wp2_with fail
          go_ret
          exact ⟨rfl, Hb6.out⟩
        · rw [hce]
          clear hce
          go_wp2_with fail
          refine (wakes_any _).mono ?_
          rintro e w6 ⟨rfl, hb6⟩
          have Hb6 := Lib.hid (B5.out.trans (hb6.mono (by have := B5.out.size; omega)))
          clear hb6
          go_wp2_with fail
          go_ret
          exact ⟨rfl, Hb6.out⟩

/-! ### THE ROW's STEP: WRITTEN OUT: LEAVE IT -/
set_option maxRecDepth 100000 in
theorem lifted (os : Os) (started : os.Started) (H : Type) (enc : TypeId × Value → H) :
    ReturnsInHanded {} Try.checked os 7 .any (Rows.spanTilesSpec.pre6 enc Try.prog Try.f7 Rows.spanTilesRow.domain false) (Rows.spanTilesSpec.post enc Try.prog Try.f7 false true false false) := by
  refine returnsInHanded_of_change (C := Try.checked) own started (by kernel_rfl) Try.func7
    (ChangeSpec.witness6 (enc := enc) (C := Try.checked) false ⟨#[], #[.int .i64 0, .int .i64 0], []⟩ 8 (by kernel_rfl) (by kernel_rfl) (by kernel_rfl) (by kernel_rfl)) ?_
  intro W base args ds gs before hval0 hW hcnd _
  have hval : ∀ (j : Nat) t v, Try.f7.params[j]? = some t → args[j]? = some v → Value.okWide Try.prog W .any base t v := hval0
  have hW' := hW
  obtain ⟨p, q, hA0, hV, rfl, hfz, hnd⟩ := hW
  have hA : DataW.TrodAll enc Try.prog W 0 (fun _ => true) true Try.f7.params.toList args.toList ds p := hA0
  rw [Try.params7] at hA hval
  obtain ⟨v0, vs0, d0, ds0, p0, q0, hargs, rfl, rfl, h0, r0⟩ := trodAll_cons hA
  obtain ⟨v1, vs1, d1, ds1, p1, q1, rfl, rfl, rfl, h1, r1⟩ := trodAll_cons r0
  obtain ⟨rfl, rfl, rfl⟩ := trodAll_nil r1
  obtain rfl : args = #[v0, v1] := by cases args; simp_all
  obtain ⟨rfl, rfl⟩ := trodVars_none hV
  obtain ⟨a0, rfl, rfl, rfl, w0⟩ := open_int Try.underlying2 (hval 0 2 v0 rfl rfl) h0
  obtain ⟨a1, rfl, rfl, rfl, w1⟩ := open_int Try.underlying2 (hval 1 2 v1 rfl rfl) h1
  clear hA0 hval0
  refine (walk a0 a1 w0 w1 W).mono fun e W' ⟨he, hg⟩ => ?_
  subst he
  exact ⟨_, rfl, _, _, _, [], _, [], hW', trodAll_mk1 (shut_bool Try.underlying4 _), (trodAll_cons_mk (shut_int Try.underlying2 w0) (trodAll_cons_mk (shut_int Try.underlying2 w1) trodAll_mk0)), rfl, hg.frame _, fun h => by cases h⟩

theorem over : Rows.spanTilesRow.holds Try.pinned (OpenSpec.ofChange Rows.spanTilesSpec) :=
  OpenClaim.holds_of_wide 7 Try.f7 rfl rfl rfl rfl rfl rfl rfl ⟨rfl, rfl, rfl, rfl, rfl⟩ rfl rfl rfl rfl rfl (by kernel_rfl) Try.func7 (by kernel_rfl)
    (of_decide_eq_true (by kernel_rfl)) (by unfold Func.isWrapper; first | (rw [if_pos (by decide +kernel)]; kernel_rfl) | (rw [if_neg (by decide +kernel)]; exact ⟨rfl, rfl⟩))
    (fun os started H enc _ => lifted os started H enc)

/-- The statement. -/
theorem proved : Rows.SpanTilesSaid :=
  over
#print axioms proved
end Go.Proofs.Ytfpegfngogkmmab.spanTiles
