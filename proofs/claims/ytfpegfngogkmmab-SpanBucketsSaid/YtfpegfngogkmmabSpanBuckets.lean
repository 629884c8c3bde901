/-
Each time has one bucket: the law answers true whatever the four numbers. No condition.
-/
import Derived.Test.YtfpegfngogkmmabRows
import Derived.Test.YtfpegfngogkmmabS4
import Derived.Test.YtfpegfngogkmmabSM
import Derived.WalkKit
import Derived.ProofKit
import Derived.OpenShut
import Derived.ShutString
import Derived.Deep.RegionHeld3
import Derived.Below
import Derived.ChangeOld
namespace Go.Proofs.Ytfpegfngogkmmab.spanBuckets
open Go.ChangeShapes Go.WideShapes Go.ChangeAt Go.RowKit
open Go.ChangeMaps (open_string shut_string)
set_option linter.unusedVariables false      -- a walk need not use every 'w<i>' (that an integer argument fits its kind)

theorem own : ownKnob Try.prog.godebug = none := by kernel_rfl

/-! ### STEP 1: THE WALK: the Go text returns true. 'Grown w w'': the world has at most new blocks (Derived/RowKit3.lean). Part the cases AHEAD of 'go_enter' where a test parts the walk; take each callee by a contract of your own. -/
set_option maxRecDepth 100000 in
set_option maxHeartbeats 16000000 in
theorem walk (a0 : Int) (a1 : Int) (a2 : Int) (a3 : Int) (w0 : (Lit.int .i64 a0).wf = true) (w1 : (Lit.int .i64 a1).wf = true) (w2 : (Lit.int .i64 a2).wf = true) (w3 : (Lit.int .i64 a3).wf = true) (w : World) :
    Calls Try.prog 4 #[.int .i64 a0, .int .i64 a1, .int .i64 a2, .int .i64 a3] w fun e w' => e = .returned (.bool true) ∧ Below w.heap.size w w' := by
  obtain ⟨l0, u0⟩ := bounds_i64 w0
  obtain ⟨l1, u1⟩ := bounds_i64 w1
  obtain ⟨l2, u2⟩ := bounds_i64 w2
  obtain ⟨l3, u3⟩ := bounds_i64 w3
  clear w0 w1 w2 w3
  by_cases hg : timeB a0 = true ∧ timeB a1 = true ∧ widthB a2 = true
  · obtain ⟨ht, hu, hw⟩ := hg
    have HT := Lib.hid ht
    have HU := Lib.hid hu
    have HW := Lib.hid hw
    obtain ⟨n1, n2⟩ := (width_iff a2).1 hw
    obtain ⟨t1, t2⟩ := (time_iff a0).1 ht
    obtain ⟨s1, s2⟩ := (time_iff a1).1 hu
    obtain ⟨b1, b2⟩ := floorS_bd (t := a0) n1
    obtain ⟨b3, b4⟩ := floorS_bd (t := a1) n1
    have m1 := floor_mod (t := a0) (n := a2)
    have m2 := floor_mod (t := a1) (n := a2)
    have E1 := Lib.hid (show bucketR a0 a2 = ((floorS a0 a2, floorS a0 a2 + a2), 0) by rw [bucketR, if_pos (errS_in hw (by omega) (by omega))])
    have E2 := Lib.hid (show bucketR a1 a2 = ((floorS a1 a2, floorS a1 a2 + a2), 0) by rw [bucketR, if_pos (errS_in hw (by omega) (by omega))])
    have HF := Lib.hid (show ∀ x, x = floorS a0 a2 → True from fun _ _ => trivial)
    generalize hf : floorS a0 a2 = f at *
    generalize hgg : floorS a1 a2 = g at *
    have q1 : IntKind.i64.wrap (f + a2 - f) = a2 := by rw [IntKind.wrap_i64]; omega
    have q4 : (f + a2 - f != a2) = false := by simp; omega
    have q2 : (f.tmod a2 != 0) = false := by rw [tmod_zero m1]; rfl
    have q5 : ¬ a2 = 0 := by omega
    have q6 : f.tmod a2 = 0 := tmod_zero m1
    have q3 : (f % a2 != 0) = false := by rw [m1]; rfl
    have h1 : hasB f (f + a2) a0 = true := by simp [hasB]; omega
    have h2 : (f = g ∧ hasB f (f + a2) a1 = true) ∨ ((f == g) = false ∧ hasB f (f + a2) a1 = false ∧ andS f (f + a2) g (g + a2) = (0, 0)) := by
      by_cases h : f = g
      · exact .inl ⟨h, by simp [hasB]; omega⟩
      · refine .inr ⟨by simpa using h, ?_, ?_⟩
        · have : ¬ (f ≤ a1 ∧ a1 < f + a2) := fun ⟨x1, x2⟩ => h (by rw [← hgg]; exact (floor_uniq m1 x1 x2).symm)
          simp [hasB]; omega
        · rcases Int.lt_trichotomy f g with hlt | heq | hlt
          · have := floor_gap n1 m1 m2 hlt
            unfold andS goodS; rw [if_pos (by omega)]
          · exact absurd heq h
          · have := floor_gap n1 m2 m1 hlt
            unfold andS goodS; rw [if_pos (by omega)]
    have H1 := Lib.hid h1
    have H2 := Lib.hid h2
    have Q := Lib.hid (And.intro m1 hf)
    have hrem : ∀ W, Sem.run Try.prog (binOp .rem 2 (.int .i64 f) (.int .i64 a2)) W = .ok (.int .i64 0) W := fun W => by simp [go_sem, q5, q6]
    clear ht hu hw m1 m2 hf hgg h1 h2
    have hsame := span_same
    have hnot := span_not
    go_enter Try.func4, Try.ntmps4
    go_wp2_with fail
    refine (time_any _ _).mono ?_
    rintro e w' ⟨rfl, rfl⟩
    rw [HT.out]
    go_wp2_with fail
    refine (time_any _ _).mono ?_
    rintro e w' ⟨rfl, rfl⟩
    rw [HU.out]
    go_wp2_with fail
    refine (width_any _ _).mono ?_
    rintro e w' ⟨rfl, rfl⟩
    rw [HW.out]
    go_wp2_with fail
    refine (Bucket_any _ _ _).mono ?_
    rintro e w1 ⟨rfl, hb1⟩
    rw [E1.out]
    simp only [tupS]
    have Hb1 := Lib.hid hb1
    clear hb1
    go_wp2_with fail
    refine (Bucket_any _ _ _).mono ?_
    rintro e w2 ⟨rfl, hb2⟩
    rw [E2.out]
    simp only [tupS]
    obtain ⟨c0, c1, -, -⟩ := res_cells (g := w1.heap.size) _ _ _ rfl hb2
    have hz2 := hb2.size
    simp at hz2
    have Hb2 := Lib.hid hb2
    clear hb2
    have c0' := cell_alloc c0
    have c1' := cell_alloc c1
    go_wp2_with fail
    obtain ⟨W, hW⟩ : ∃ W, W = w2.alloc (.cells #[.int .i64 g, .int .i64 (g + a2)] 23) := ⟨_, rfl⟩
    have d0 : W.cell? ⟨w2.heap.size, 0, none⟩ = some (.int .i64 g) := by rw [hW]; simp [go_sem]
    have d1 : W.cell? ⟨w2.heap.size, 1, none⟩ = some (.int .i64 (g + a2)) := by rw [hW]; simp [go_sem]
    have e0 := c0' (.cells #[.int .i64 g, .int .i64 (g + a2)] 23)
    have e1 := c1' (.cells #[.int .i64 g, .int .i64 (g + a2)] 23)
    rw [← hW] at e0 e1 ⊢
    have HB := Lib.hid (show Below w.heap.size w W by rw [hW]; exact below_step (below_step Hb1.out ((alloc1 _ _).trans (Hb2.out.mono (by simp)))) (alloc1 _ _))
    clear hW c0 c1 c0' c1'
    rcases H2.out with ⟨hfg, hh⟩ | ⟨hfg, hh, han⟩
    · subst hfg
      have HH := Lib.hid hh
      clear hh
      refine wp_region_held_drew (S := (fun W' => W'.cell? ⟨w1.heap.size, 0, none⟩ = some (.int .i64 f) ∧ W'.cell? ⟨w1.heap.size, 1, none⟩ = some (.int .i64 (f + a2)) ∧ W'.cell? ⟨w2.heap.size, 0, none⟩ = some (.int .i64 f) ∧ W'.cell? ⟨w2.heap.size, 1, none⟩ = some (.int .i64 (f + a2)) ∧ Below w.heap.size w W')) (by kernel_rfl) (by exact ⟨e0, e1, d0, d1, HB.out.drew⟩) (fun hHeld1 => ?_)
      refine wpAnyH_take (i := 0) (oi := { dst := some 45, op := _, type := _, pos := _, after := _, guard := _ }) (v := ?v1x0) rfl (by kernel_rfl) (by kernel_rfl) (by kernel_rfl) (fun _ _ _ h => h) (Or.inl ⟨by kernel_rfl, ?y1x0⟩) (by assumption) ?r1x0
      case y1x0 =>
        intro wS hSw
        (try dsimp only at hSw)
        first | (go_simp; done) | (go_simp; with_reducible rfl)
      (try simp only [Act.put, List.setIfInBounds_toArray, List.set_cons_zero, List.set_cons_succ])
      refine wpAnyH_take (i := 1) (oi := { dst := some 46, op := _, type := _, pos := _, after := _, guard := _ }) (v := ?v1x1) rfl (by kernel_rfl) (by kernel_rfl) (by kernel_rfl) (fun _ _ _ h => h) (Or.inl ⟨by kernel_rfl, ?y1x1⟩) (by assumption) ?r1x1
      case y1x1 =>
        intro wS hSw
        (try dsimp only at hSw)
        first | (go_simp; done) | (go_simp; with_reducible rfl)
      (try simp only [Act.put, List.setIfInBounds_toArray, List.set_cons_zero, List.set_cons_succ])
      refine wpAnyH_take (i := 2) (oi := { dst := some 47, op := _, type := _, pos := _, after := _, guard := _ }) (v := ?v1x2) rfl (by kernel_rfl) (by kernel_rfl) (by kernel_rfl) (fun _ _ _ h => h) (Or.inl ⟨by kernel_rfl, ?y1x2⟩) (by assumption) ?r1x2
      case y1x2 =>
        intro wS hSw
        (try dsimp only at hSw)
        first | (go_simp; done) | (go_simp; with_reducible rfl)
      (try simp only [Act.put, List.setIfInBounds_toArray, List.set_cons_zero, List.set_cons_succ])
      refine wpAnyH_take (i := 3) (oi := { dst := some 48, op := _, type := _, pos := _, after := _, guard := _ }) (v := ?v1x3) rfl (by kernel_rfl) (by kernel_rfl) (by kernel_rfl) (fun _ _ _ h => h) (Or.inl ⟨by kernel_rfl, ?y1x3⟩) (by assumption) ?r1x3
      case y1x3 =>
        intro wS hSw
        (try dsimp only at hSw)
        first | (go_simp; done) | (go_simp; with_reducible rfl)
      (try simp only [Act.put, List.setIfInBounds_toArray, List.set_cons_zero, List.set_cons_succ])
      refine wpAnyH_take (i := 4) (oi := { dst := some 49, op := _, type := _, pos := _, after := _, guard := _ }) (v := ?v1x4) rfl (by kernel_rfl) (by kernel_rfl) (by kernel_rfl) (fun _ _ _ h => h) (Or.inl ⟨by kernel_rfl, ?y1x4⟩) (by assumption) ?r1x4
      case y1x4 =>
        intro wS hSw
        (try dsimp only at hSw)
        first | (go_simp; done) | (go_simp; with_reducible rfl)
      (try simp only [Act.put, List.setIfInBounds_toArray, List.set_cons_zero, List.set_cons_succ])
      refine wpAnyH_take (i := 5) (oi := { dst := some 50, op := _, type := _, pos := _, after := _, guard := _ }) (v := ?v1x5) rfl (by kernel_rfl) (by kernel_rfl) (by kernel_rfl) (fun _ _ _ h => h) (Or.inl ⟨by kernel_rfl, ?y1x5⟩) (by assumption) ?r1x5
      case y1x5 =>
        intro wS hSw
        (try dsimp only at hSw)
        first | (go_simp; done) | (go_simp; with_reducible rfl)
      (try simp only [Act.put, List.setIfInBounds_toArray, List.set_cons_zero, List.set_cons_succ])
      refine wpAnyH_take (i := 6) (oi := { dst := some 51, op := _, type := _, pos := _, after := _, guard := _ }) (v := ?v1x6) rfl (by kernel_rfl) (by kernel_rfl) (by kernel_rfl) (fun _ _ _ h => h) (Or.inl ⟨by kernel_rfl, ?y1x6⟩) (by assumption) ?r1x6
      case y1x6 =>
        intro wS hSw
        (try dsimp only at hSw)
        first | (go_simp; done) | (go_simp; with_reducible rfl)
      (try simp only [Act.put, List.setIfInBounds_toArray, List.set_cons_zero, List.set_cons_succ])
      refine wpAnyH_take (i := 7) (oi := { dst := some 52, op := _, type := _, pos := _, after := _, guard := _ }) (v := ?v1x7) rfl (by kernel_rfl) (by kernel_rfl) (by kernel_rfl) (fun _ _ _ h => h) (Or.inl ⟨by kernel_rfl, ?y1x7⟩) (by assumption) ?r1x7
      case y1x7 =>
        intro wS hSw
        (try dsimp only at hSw)
        first | (go_simp; done) | (go_simp; with_reducible rfl)
      (try simp only [Act.put, List.setIfInBounds_toArray, List.set_cons_zero, List.set_cons_succ])
      refine wpAnyH_take (i := 8) (oi := { dst := some 53, op := _, type := _, pos := _, after := _, guard := _ }) (v := ?v1x8) rfl (by kernel_rfl) (by kernel_rfl) (by kernel_rfl) (fun _ _ _ h => h) (Or.inl ⟨by kernel_rfl, ?y1x8⟩) (by assumption) ?r1x8
      case y1x8 =>
        intro wS hSw
        (try dsimp only at hSw)
        first | (go_simp; done) | (go_simp; with_reducible rfl)
      (try simp only [Act.put, List.setIfInBounds_toArray, List.set_cons_zero, List.set_cons_succ])
      refine wpAnyH_ready (rs := [9]) (by kernel_rfl) (by simp) ?_
      refine AllReadyH.cons (o := { dst := some 54, op := _, type := _, pos := _, after := _, guard := _ }) rfl (fun K1x9 hK1x9 => ?_) AllReadyH.nil
      go_simp
      refine (has_any _ _ _ _).mono ?_
      rintro e x1 ⟨rfl, hb⟩
      rw [H1.out]
      have HS1 := Lib.hid (keep4 (w := W.drew) hb ⟨e0, e1, d0, d1, HB.out.drew⟩)
      clear hb
      go_simp
      refine hK1x9.out _ _ (by exact HS1.out) (fun hHeld1x9 => ?_)
      clear hK1x9 K1x9
      (try simp only [Act.put, List.setIfInBounds_toArray, List.set_cons_zero, List.set_cons_succ])
      refine wpAnyH_take (i := 10) (oi := { dst := some 55, op := _, type := _, pos := _, after := _, guard := _ }) (v := ?v1x10) rfl (by kernel_rfl) (by kernel_rfl) (by kernel_rfl) (fun _ _ _ h => h) (Or.inl ⟨by kernel_rfl, ?y1x10⟩) (by assumption) ?r1x10
      case y1x10 =>
        intro wS hSw
        (try dsimp only at hSw)
        first | (go_simp; done) | (go_simp; with_reducible rfl)
      (try simp only [Act.put, List.setIfInBounds_toArray, List.set_cons_zero, List.set_cons_succ])
      refine wpAnyH_take (i := 11) (oi := { dst := some 56, op := _, type := _, pos := _, after := _, guard := _ }) (v := ?v1x11) rfl (by kernel_rfl) (by kernel_rfl) (by kernel_rfl) (fun _ _ _ h => h) (Or.inl ⟨by kernel_rfl, ?y1x11⟩) (by assumption) ?r1x11
      case y1x11 =>
        intro wS hSw
        (try dsimp only at hSw)
        first | (go_simp; done) | (go_simp; with_reducible rfl)
      (try simp only [Act.put, List.setIfInBounds_toArray, List.set_cons_zero, List.set_cons_succ])
      refine wpAnyH_take (i := 12) (oi := { dst := some 57, op := _, type := _, pos := _, after := _, guard := _ }) (v := ?v1x12) rfl (by kernel_rfl) (by kernel_rfl) (by kernel_rfl) (fun _ _ _ h => h) (Or.inl ⟨by kernel_rfl, ?y1x12⟩) (by assumption) ?r1x12
      case y1x12 =>
        intro wS hSw
        (try dsimp only at hSw)
        first | (go_simp; done) | (go_simp; with_reducible rfl)
      (try simp only [Act.put, List.setIfInBounds_toArray, List.set_cons_zero, List.set_cons_succ])
      refine wpAnyH_take (i := 13) (oi := { dst := some 58, op := _, type := _, pos := _, after := _, guard := _ }) (v := ?v1x13) rfl (by kernel_rfl) (by kernel_rfl) (by kernel_rfl) (fun _ _ _ h => h) (Or.inl ⟨by kernel_rfl, ?y1x13⟩) (by assumption) ?r1x13
      case y1x13 =>
        intro wS hSw
        (try dsimp only at hSw)
        first | (go_simp; done) | (go_simp; with_reducible rfl)
      (try simp only [Act.put, List.setIfInBounds_toArray, List.set_cons_zero, List.set_cons_succ])
      refine wpAnyH_take (i := 14) (oi := { dst := some 59, op := _, type := _, pos := _, after := _, guard := _ }) (v := ?v1x14) rfl (by kernel_rfl) (by kernel_rfl) (by kernel_rfl) (fun _ _ _ h => h) (Or.inl ⟨by kernel_rfl, ?y1x14⟩) (by assumption) ?r1x14
      case y1x14 =>
        intro wS hSw
        (try dsimp only at hSw)
        first | (go_simp; done) | (go_simp; with_reducible rfl)
      (try simp only [Act.put, List.setIfInBounds_toArray, List.set_cons_zero, List.set_cons_succ])
      refine wpAnyH_take (i := 15) (oi := { dst := some 60, op := _, type := _, pos := _, after := _, guard := _ }) (v := ?v1x15) rfl (by kernel_rfl) (by kernel_rfl) (by kernel_rfl) (fun _ _ _ h => h) (Or.inl ⟨by kernel_rfl, ?y1x15⟩) (by assumption) ?r1x15
      case y1x15 =>
        intro wS hSw
        (try dsimp only at hSw)
        first | (go_simp; done) | (go_simp; with_reducible rfl)
      (try simp only [Act.put, List.setIfInBounds_toArray, List.set_cons_zero, List.set_cons_succ])
      refine wpAnyH_take (i := 16) (oi := { dst := some 61, op := _, type := _, pos := _, after := _, guard := _ }) (v := ?v1x16) rfl (by kernel_rfl) (by kernel_rfl) (by kernel_rfl) (fun _ _ _ h => h) (Or.inl ⟨by kernel_rfl, ?y1x16⟩) (by assumption) ?r1x16
      case y1x16 =>
        intro wS hSw
        (try dsimp only at hSw)
        first | (go_simp; done) | (go_simp; with_reducible rfl)
      (try simp only [Act.put, List.setIfInBounds_toArray, List.set_cons_zero, List.set_cons_succ])
      refine wpAnyH_take (i := 17) (oi := { dst := some 62, op := _, type := _, pos := _, after := _, guard := _ }) (v := ?v1x17) rfl (by kernel_rfl) (by kernel_rfl) (by kernel_rfl) (fun _ _ _ h => h) (Or.inl ⟨by kernel_rfl, ?y1x17⟩) (by assumption) ?r1x17
      case y1x17 =>
        intro wS hSw
        (try dsimp only at hSw)
        first | (go_simp; done) | (go_simp; with_reducible rfl)
      (try simp only [Act.put, List.setIfInBounds_toArray, List.set_cons_zero, List.set_cons_succ])
      refine wpAnyH_take (i := 18) (oi := { dst := some 63, op := _, type := _, pos := _, after := _, guard := _ }) (v := ?v1x18) rfl (by kernel_rfl) (by kernel_rfl) (by kernel_rfl) (fun _ _ _ h => h) (Or.inl ⟨by kernel_rfl, ?y1x18⟩) (by assumption) ?r1x18
      case y1x18 =>
        intro wS hSw
        (try dsimp only at hSw)
        first | (go_simp; done) | (go_simp; with_reducible rfl)
      (try simp only [Act.put, List.setIfInBounds_toArray, List.set_cons_zero, List.set_cons_succ])
      refine wpAnyH_take (i := 19) (oi := { dst := some 64, op := _, type := _, pos := _, after := _, guard := _ }) (v := ?v1x19) rfl (by kernel_rfl) (by kernel_rfl) (by kernel_rfl) (fun _ _ _ h => h) (Or.inl ⟨by kernel_rfl, ?y1x19⟩) (by assumption) ?r1x19
      case y1x19 =>
        intro wS hSw
        (try dsimp only at hSw)
        first | (go_simp; done) | (go_simp; with_reducible rfl)
      (try simp only [Act.put, List.setIfInBounds_toArray, List.set_cons_zero, List.set_cons_succ])
      refine wpAnyH_take (i := 20) (oi := { dst := some 65, op := _, type := _, pos := _, after := _, guard := _ }) (v := ?v1x20) rfl (by kernel_rfl) (by kernel_rfl) (by kernel_rfl) (fun _ _ _ h => h) (Or.inl ⟨by kernel_rfl, ?y1x20⟩) (by assumption) ?r1x20
      case y1x20 =>
        intro wS hSw
        (try dsimp only at hSw)
        first | (go_simp; done) | (go_simp; with_reducible rfl)
      (try simp only [Act.put, List.setIfInBounds_toArray, List.set_cons_zero, List.set_cons_succ])
      refine wpAnyH_take (i := 21) (oi := { dst := some 66, op := _, type := _, pos := _, after := _, guard := _ }) (v := ?v1x21) rfl (by kernel_rfl) (by kernel_rfl) (by kernel_rfl) (fun _ _ _ h => h) (Or.inl ⟨by kernel_rfl, ?y1x21⟩) (by assumption) ?r1x21
      case y1x21 =>
        intro wS hSw
        (try dsimp only at hSw)
        first | (go_simp; done) | (go_simp; with_reducible rfl)
      (try simp only [Act.put, List.setIfInBounds_toArray, List.set_cons_zero, List.set_cons_succ])
      refine wpAnyH_take (i := 22) (oi := { dst := some 67, op := _, type := _, pos := _, after := _, guard := _ }) (v := ?v1x22) rfl (by kernel_rfl) (by kernel_rfl) (by kernel_rfl) (fun _ _ _ h => h) (Or.inl ⟨by kernel_rfl, ?y1x22⟩) (by assumption) ?r1x22
      case y1x22 =>
        intro wS hSw
        (try dsimp only at hSw)
        first | (go_simp; done) | (go_simp; with_reducible rfl)
      (try simp only [Act.put, List.setIfInBounds_toArray, List.set_cons_zero, List.set_cons_succ])
      refine wpAnyH_take (i := 23) (oi := { dst := some 68, op := _, type := _, pos := _, after := _, guard := _ }) (v := ?v1x23) rfl (by kernel_rfl) (by kernel_rfl) (by kernel_rfl) (fun _ _ _ h => h) (Or.inl ⟨by kernel_rfl, ?y1x23⟩) (by assumption) ?r1x23
      case y1x23 =>
        intro wS hSw
        (try dsimp only at hSw)
        first | (go_simp; done) | (go_simp; with_reducible rfl)
      (try simp only [Act.put, List.setIfInBounds_toArray, List.set_cons_zero, List.set_cons_succ])
      refine wpAnyH_take (i := 24) (oi := { dst := some 69, op := _, type := _, pos := _, after := _, guard := _ }) (v := ?v1x24) rfl (by kernel_rfl) (by kernel_rfl) (by kernel_rfl) (fun _ _ _ h => h) (Or.inl ⟨by kernel_rfl, ?y1x24⟩) (by assumption) ?r1x24
      case y1x24 =>
        intro wS hSw
        (try dsimp only at hSw)
        first | (go_simp; done) | (go_simp; with_reducible rfl)
      (try simp only [Act.put, List.setIfInBounds_toArray, List.set_cons_zero, List.set_cons_succ])
      refine wpAnyH_take (i := 25) (oi := { dst := some 70, op := _, type := _, pos := _, after := _, guard := _ }) (v := ?v1x25) rfl (by kernel_rfl) (by kernel_rfl) (by kernel_rfl) (fun _ _ _ h => h) (Or.inl ⟨by kernel_rfl, ?y1x25⟩) (by assumption) ?r1x25
      case y1x25 =>
        intro wS hSw
        (try dsimp only at hSw)
        first | (go_simp; done) | (go_simp; with_reducible rfl)
      (try simp only [Act.put, List.setIfInBounds_toArray, List.set_cons_zero, List.set_cons_succ])
      refine wpAnyH_take (i := 26) (oi := { dst := some 71, op := _, type := _, pos := _, after := _, guard := _ }) (v := ?v1x26) rfl (by kernel_rfl) (by kernel_rfl) (by kernel_rfl) (fun _ _ _ h => h) (Or.inl ⟨by kernel_rfl, ?y1x26⟩) (by assumption) ?r1x26
      case y1x26 =>
        intro wS hSw
        (try dsimp only at hSw)
        first | (go_simp; done) | (go_simp; with_reducible rfl)
      (try simp only [Act.put, List.setIfInBounds_toArray, List.set_cons_zero, List.set_cons_succ])
      refine wpAnyH_take (i := 27) (oi := { dst := some 72, op := _, type := _, pos := _, after := _, guard := _ }) (v := ?v1x27) rfl (by kernel_rfl) (by kernel_rfl) (by kernel_rfl) (fun _ _ _ h => h) (Or.inl ⟨by kernel_rfl, ?y1x27⟩) (by assumption) ?r1x27
      case y1x27 =>
        intro wS hSw
        (try dsimp only at hSw)
        first | (go_simp; done) | (go_simp; with_reducible rfl)
      (try simp only [Act.put, List.setIfInBounds_toArray, List.set_cons_zero, List.set_cons_succ])
      refine wpAnyH_take (i := 28) (oi := { dst := some 73, op := _, type := _, pos := _, after := _, guard := _ }) (v := ?v1x28) rfl (by kernel_rfl) (by kernel_rfl) (by kernel_rfl) (fun _ _ _ h => h) (Or.inl ⟨by kernel_rfl, ?y1x28⟩) (by assumption) ?r1x28
      case y1x28 =>
        intro wS hSw
        (try dsimp only at hSw)
        first | (go_simp; done) | (go_simp; with_reducible rfl)
      (try simp only [Act.put, List.setIfInBounds_toArray, List.set_cons_zero, List.set_cons_succ])
      refine wpAnyH_take (i := 29) (oi := { dst := some 74, op := _, type := _, pos := _, after := _, guard := _ }) (v := ?v1x29) rfl (by kernel_rfl) (by kernel_rfl) (by kernel_rfl) (fun _ _ _ h => h) (Or.inl ⟨by kernel_rfl, ?y1x29⟩) (by assumption) ?r1x29
      case y1x29 =>
        intro wS hSw
        (try dsimp only at hSw)
        first | (go_simp; done) | (go_simp; with_reducible rfl)
      (try simp only [Act.put, List.setIfInBounds_toArray, List.set_cons_zero, List.set_cons_succ])
      refine wpAnyH_take (i := 30) (oi := { dst := some 75, op := _, type := _, pos := _, after := _, guard := _ }) (v := ?v1x30) rfl (by kernel_rfl) (by kernel_rfl) (by kernel_rfl) (fun _ _ _ h => h) (Or.inl ⟨by kernel_rfl, ?y1x30⟩) (by assumption) ?r1x30
      case y1x30 =>
        intro wS hSw
        (try dsimp only at hSw)
        first | (go_simp; done) | (go_simp; with_reducible rfl)
      (try simp only [Act.put, List.setIfInBounds_toArray, List.set_cons_zero, List.set_cons_succ])
      refine wpAnyH_take (i := 32) (oi := { dst := some 77, op := _, type := _, pos := _, after := _, guard := _ }) (v := ?v1x31) rfl (by kernel_rfl) (by kernel_rfl) (by kernel_rfl) (fun _ _ _ h => h) (Or.inl ⟨by kernel_rfl, ?y1x31⟩) (by assumption) ?r1x31
      case y1x31 =>
        intro wS hSw
        (try dsimp only at hSw)
        first | (go_simp; done) | (go_simp; with_reducible rfl)
      (try simp only [Act.put, List.setIfInBounds_toArray, List.set_cons_zero, List.set_cons_succ])
      refine wpAnyH_take (i := 33) (oi := { dst := some 78, op := _, type := _, pos := _, after := _, guard := _ }) (v := ?v1x32) rfl (by kernel_rfl) (by kernel_rfl) (by kernel_rfl) (fun _ _ _ h => h) (Or.inl ⟨by kernel_rfl, ?y1x32⟩) (by assumption) ?r1x32
      case y1x32 =>
        intro wS hSw
        (try dsimp only at hSw)
        first | (go_simp; done) | (go_simp; with_reducible rfl)
      (try simp only [Act.put, List.setIfInBounds_toArray, List.set_cons_zero, List.set_cons_succ])
      refine wpAnyH_take (i := 34) (oi := { dst := some 79, op := _, type := _, pos := _, after := _, guard := _ }) (v := ?v1x33) rfl (by kernel_rfl) (by kernel_rfl) (by kernel_rfl) (fun _ _ _ h => h) (Or.inl ⟨by kernel_rfl, ?y1x33⟩) (by assumption) ?r1x33
      case y1x33 =>
        intro wS hSw
        (try dsimp only at hSw)
        first | (go_simp; done) | (go_simp; with_reducible rfl)
      (try simp only [Act.put, List.setIfInBounds_toArray, List.set_cons_zero, List.set_cons_succ])
      refine wpAnyH_ready (rs := [31]) (by kernel_rfl) (by simp) ?_
      refine AllReadyH.cons (o := { dst := some 76, op := _, type := _, pos := _, after := _, guard := _ }) rfl (fun K1x34 hK1x34 => ?_) AllReadyH.nil
      go_simp
      refine (has_any _ _ _ _).mono ?_
      rintro e x2 ⟨rfl, hb⟩
      rw [HH.out]
      have HS2 := Lib.hid (keep4 hb HS1.out)
      clear hb
      go_simp
      refine hK1x34.out _ _ (by exact HS2.out) (fun hHeld1x34 => ?_)
      clear hK1x34 K1x34
      (try simp only [Act.put, List.setIfInBounds_toArray, List.set_cons_zero, List.set_cons_succ])
      refine wpAnyH_take (i := 35) (oi := { dst := some 80, op := _, type := _, pos := _, after := _, guard := _ }) (v := ?v1x35) rfl (by kernel_rfl) (by kernel_rfl) (by kernel_rfl) (fun _ _ _ h => h) (Or.inl ⟨by kernel_rfl, ?y1x35⟩) (by assumption) ?r1x35
      case y1x35 =>
        intro wS hSw
        (try dsimp only at hSw)
        first | (go_simp; done) | (go_simp; with_reducible rfl)
      (try simp only [Act.put, List.setIfInBounds_toArray, List.set_cons_zero, List.set_cons_succ])
      refine wpAnyH_take (i := 36) (oi := { dst := some 81, op := _, type := _, pos := _, after := _, guard := _ }) (v := ?v1x36) rfl (by kernel_rfl) (by kernel_rfl) (by kernel_rfl) (fun _ _ _ h => h) (Or.inl ⟨by kernel_rfl, ?y1x36⟩) (by assumption) ?r1x36
      case y1x36 =>
        intro wS hSw
        (try dsimp only at hSw)
        first | (go_simp; done) | (go_simp; with_reducible rfl)
      (try simp only [Act.put, List.setIfInBounds_toArray, List.set_cons_zero, List.set_cons_succ])
      refine wpAnyH_take (i := 37) (oi := { dst := some 82, op := _, type := _, pos := _, after := _, guard := _ }) (v := ?v1x37) rfl (by kernel_rfl) (by kernel_rfl) (by kernel_rfl) (fun _ _ _ h => h) (Or.inl ⟨by kernel_rfl, ?y1x37⟩) (by assumption) ?r1x37
      case y1x37 =>
        intro wS hSw
        (try dsimp only at hSw)
        first | (go_simp; done) | (go_simp; with_reducible rfl)
      (try simp only [Act.put, List.setIfInBounds_toArray, List.set_cons_zero, List.set_cons_succ])
      refine wpAnyH_take (i := 38) (oi := { dst := some 83, op := _, type := _, pos := _, after := _, guard := _ }) (v := ?v1x38) rfl (by kernel_rfl) (by kernel_rfl) (by kernel_rfl) (fun _ _ _ h => h) (Or.inl ⟨by kernel_rfl, ?y1x38⟩) (by assumption) ?r1x38
      case y1x38 =>
        intro wS hSw
        (try dsimp only at hSw)
        first | (go_simp; done) | (go_simp; with_reducible rfl)
      (try simp only [Act.put, List.setIfInBounds_toArray, List.set_cons_zero, List.set_cons_succ])
      refine wpAnyH_take (i := 39) (oi := { dst := some 84, op := _, type := _, pos := _, after := _, guard := _ }) (v := ?v1x39) rfl (by kernel_rfl) (by kernel_rfl) (by kernel_rfl) (fun _ _ _ h => h) (Or.inl ⟨by kernel_rfl, ?y1x39⟩) (by assumption) ?r1x39
      case y1x39 =>
        intro wS hSw
        (try dsimp only at hSw)
        first | (go_simp; done) | (go_simp; with_reducible rfl)
      (try simp only [Act.put, List.setIfInBounds_toArray, List.set_cons_zero, List.set_cons_succ])
      refine wpAnyH_take (i := 40) (oi := { dst := some 85, op := _, type := _, pos := _, after := _, guard := _ }) (v := ?v1x40) rfl (by kernel_rfl) (by kernel_rfl) (by kernel_rfl) (fun _ _ _ h => h) (Or.inl ⟨by kernel_rfl, ?y1x40⟩) (by assumption) ?r1x40
      case y1x40 =>
        intro wS hSw
        (try dsimp only at hSw)
        first | (go_simp; done) | (go_simp; with_reducible rfl)
      (try simp only [Act.put, List.setIfInBounds_toArray, List.set_cons_zero, List.set_cons_succ])
      refine wpAnyH_take (i := 41) (oi := { dst := some 86, op := _, type := _, pos := _, after := _, guard := _ }) (v := ?v1x41) rfl (by kernel_rfl) (by kernel_rfl) (by kernel_rfl) (fun _ _ _ h => h) (Or.inl ⟨by kernel_rfl, ?y1x41⟩) (by assumption) ?r1x41
      case y1x41 =>
        intro wS hSw
        (try dsimp only at hSw)
        first | (go_simp; done) | (go_simp; with_reducible rfl)
      (try simp only [Act.put, List.setIfInBounds_toArray, List.set_cons_zero, List.set_cons_succ])
      refine wpAnyH_take (i := 42) (oi := { dst := some 87, op := _, type := _, pos := _, after := _, guard := _ }) rfl (by kernel_rfl) (by kernel_rfl) (by kernel_rfl) (fun _ _ _ h => h) (Or.inr ⟨by kernel_rfl, rfl⟩) (by assumption) ?_
      (try simp only [Act.put, List.setIfInBounds_toArray, List.set_cons_zero, List.set_cons_succ])
      refine wpAnyH_take (i := 43) (oi := { dst := some 88, op := _, type := _, pos := _, after := _, guard := _ }) rfl (by kernel_rfl) (by kernel_rfl) (by kernel_rfl) (fun _ _ _ h => h) (Or.inr ⟨by kernel_rfl, rfl⟩) (by assumption) ?_
      (try simp only [Act.put, List.setIfInBounds_toArray, List.set_cons_zero, List.set_cons_succ])
      refine wpAnyH_ready (rs := [44]) (by kernel_rfl) (by simp) ?_
      refine AllReadyH.cons (o := { dst := some 89, op := _, type := _, pos := _, after := _, guard := _ }) rfl (fun K1x44 hK1x44 => ?_) AllReadyH.nil
      go_simp
      refine hK1x44.out _ _ (by exact HS2.out) (fun hHeld1x44 => ?_)
      clear hK1x44 K1x44
      (try simp only [Act.put, List.setIfInBounds_toArray, List.set_cons_zero, List.set_cons_succ])
      refine wpAnyH_ready (rs := [45]) (by kernel_rfl) (by simp) ?_
      refine AllReadyH.cons (o := { dst := some 90, op := _, type := _, pos := _, after := _, guard := _ }) rfl (fun K1x45 hK1x45 => ?_) AllReadyH.nil
      go_simp
      refine hK1x45.out _ _ (by exact HS2.out) (fun hHeld1x45 => ?_)
      clear hK1x45 K1x45
      (try simp only [Act.put, List.setIfInBounds_toArray, List.set_cons_zero, List.set_cons_succ])
      refine wpAnyH_take (i := 46) (oi := { dst := some 91, op := _, type := _, pos := _, after := _, guard := _ }) rfl (by kernel_rfl) (by kernel_rfl) (by kernel_rfl) (fun _ _ _ h => h) (Or.inr ⟨by kernel_rfl, rfl⟩) (by assumption) ?_
      (try simp only [Act.put, List.setIfInBounds_toArray, List.set_cons_zero, List.set_cons_succ])
      refine wpAnyH_take (i := 47) (oi := { dst := some 92, op := _, type := _, pos := _, after := _, guard := _ }) (v := ?v1x47) rfl (by kernel_rfl) (by kernel_rfl) (by kernel_rfl) (fun _ _ _ h => h) (Or.inl ⟨by kernel_rfl, ?y1x47⟩) (by assumption) ?r1x47
      case y1x47 =>
        intro wS hSw
        (try dsimp only at hSw)
        first | (go_simp; done) | (go_simp; with_reducible rfl)
      (try simp only [Act.put, List.setIfInBounds_toArray, List.set_cons_zero, List.set_cons_succ])
      refine wpAnyH_take (i := 48) (oi := { dst := some 93, op := _, type := _, pos := _, after := _, guard := _ }) (v := ?v1x48) rfl (by kernel_rfl) (by kernel_rfl) (by kernel_rfl) (fun _ _ _ h => h) (Or.inl ⟨by kernel_rfl, ?y1x48⟩) (by assumption) ?r1x48
      case y1x48 =>
        intro wS hSw
        (try dsimp only at hSw)
        first | (go_simp; done) | (go_simp; with_reducible rfl)
      (try simp only [Act.put, List.setIfInBounds_toArray, List.set_cons_zero, List.set_cons_succ])
      refine wpAnyH_done (by kernel_rfl) ?_ _
      (try dsimp only [Act.put])
      (try simp only [Act.put, List.setIfInBounds_toArray, List.set_cons_zero, List.set_cons_succ])
      have sB := Lib.hid HS2.out.2.2.2.2
      have s0 := HS2.out.1
      have s1 := HS2.out.2.1
      by_cases k1 : a3 < 1
      · go_wp2_with fail
        refine (wakes_any _).mono ?_
        rintro e y9 ⟨rfl, hb⟩
        have HBz := Lib.hid (below_step sB.out hb)
        clear hb
        go_wp2_with fail
        go_ret
        exact ⟨rfl, HBz.out⟩
      · by_cases k2 : 1099511627776 / a2 < a3
        · go_wp2_with fail
          refine (wakes_any _).mono ?_
          rintro e y9 ⟨rfl, hb⟩
          have HBz := Lib.hid (below_step sB.out hb)
          clear hb
          go_wp2_with fail
          go_ret
          exact ⟨rfl, HBz.out⟩
        · obtain ⟨N, hN⟩ : ∃ N, a2 * a3 = N := ⟨_, rfl⟩
          have N2 : N ≤ 1099511627776 := by rw [← hN]; exact mul_le_of_le_div n1 (by omega)
          have N1 : 1 ≤ N := by
            have h := Int.mul_le_mul (show (1 : Int) ≤ a2 from n1) (show (1 : Int) ≤ a3 by omega) (by omega) (by omega)
            rw [hN] at h; omega
          obtain ⟨F, hF⟩ : ∃ F, floorS a0 N = F := ⟨_, rfl⟩
          obtain ⟨r1, r2⟩ := floorS_bd (t := a0) N1
          obtain ⟨r3, r4⟩ := bucket_in (t := a0) (n := a2) (k := a3) n1 (by omega)
          rw [hN] at r3 r4
          rw [hF] at r1 r2 r3 r4
          rw [Q.out.2] at r3 r4
          have hwN : widthB N = true := (width_iff N).2 ⟨N1, N2⟩
          have mF : F % a2 = 0 := by rw [← hF, ← hN]; exact emod_of_mul floor_mod
          have mG : (F + N) % a2 = 0 := by rw [Int.add_emod, mF, ← hN, Int.mul_emod_right]; simp
          have E3 := Lib.hid (show bucketR a0 N = ((F, F + N), 0) by rw [bucketR, if_pos (errS_in hwN (by omega) (by omega)), hF])
          have E4 := Lib.hid (show wholeS floorS ceilS F (F + N) a2 = ((F, F + N), 0) by rw [wholeS, if_pos (errS_in2 HW.out (by omega) (by omega) (by omega) (by omega)), if_neg (by omega), floor_of mF, ceil_of mG, goodS, if_neg (by omega)])
          have E5 := Lib.hid (show wholeS ceilS floorS F (F + N) a2 = ((F, F + N), 0) by rw [wholeS, if_pos (errS_in2 HW.out (by omega) (by omega) (by omega) (by omega)), if_neg (by omega), floor_of mG, ceil_of mF, goodS, if_neg (by omega)])
          have E6 := Lib.hid (show andS f (f + a2) F (F + N) = (f, f + a2) from and_in r3 r4 (by omega))
          clear hF mF mG hwN r3 r4
          go_wp2_with fail
          refine (Bucket_any _ _ _).mono ?_
          rintro e y1 ⟨rfl, hb⟩
          rw [E3.out]
          simp only [tupS]
          replace s0 := cell_below s0 hb
          replace s1 := cell_below s1 hb
          have sB1 := Lib.hid (below_step sB.out hb)
          clear hb
          go_wp2_with fail
          refine (Out_any _ _ _ _).mono ?_
          rintro e y2 ⟨rfl, hb⟩
          rw [E4.out]
          simp only [tupS]
          obtain ⟨c0, c1, -, -⟩ := res_cells (g := y1.heap.size) _ _ _ rfl hb
          replace s0 := cell_below (cell_alloc s0 _) hb
          replace s1 := cell_below (cell_alloc s1 _) hb
          have sB2 := Lib.hid (below_step (below_step sB1.out (alloc1 _ _)) hb)
          clear hb
          have c0' := cell_alloc c0
          have c1' := cell_alloc c1
          go_wp2_with fail
          refine (In_any _ _ _ _).mono ?_
          rintro e y3 ⟨rfl, hb⟩
          rw [E5.out]
          simp only [tupS]
          obtain ⟨o0, o1, -, -⟩ := res_cells (g := y2.heap.size) _ _ _ rfl hb
          replace c0 := cell_below (cell_alloc c0 _) hb
          replace c1 := cell_below (cell_alloc c1 _) hb
          replace s0 := cell_below (cell_alloc s0 _) hb
          replace s1 := cell_below (cell_alloc s1 _) hb
          have sB3 := Lib.hid (below_step (below_step sB2.out (alloc1 _ _)) hb)
          clear hb c0' c1'
          go_wp2_with fail
          obtain ⟨V, hV⟩ : ∃ V, V = y3.alloc (.cells #[.int .i64 F, .int .i64 (F + N)] 23) := ⟨_, rfl⟩
          have i0 : V.cell? ⟨y3.heap.size, 0, none⟩ = some (.int .i64 F) := by rw [hV]; simp [go_sem]
          have i1 : V.cell? ⟨y3.heap.size, 1, none⟩ = some (.int .i64 (F + N)) := by rw [hV]; simp [go_sem]
          have s0 := cell_alloc s0 (.cells #[.int .i64 F, .int .i64 (F + N)] 23)
          have s1 := cell_alloc s1 (.cells #[.int .i64 F, .int .i64 (F + N)] 23)
          have c0 := cell_alloc c0 (.cells #[.int .i64 F, .int .i64 (F + N)] 23)
          have c1 := cell_alloc c1 (.cells #[.int .i64 F, .int .i64 (F + N)] 23)
          have o0 := cell_alloc o0 (.cells #[.int .i64 F, .int .i64 (F + N)] 23)
          have o1 := cell_alloc o1 (.cells #[.int .i64 F, .int .i64 (F + N)] 23)
          rw [← hV] at s0 s1 c0 c1 o0 o1 ⊢
          have sB4 := Lib.hid (show Below w.heap.size w V by rw [hV]; exact below_step sB3.out (alloc1 _ _))
          have HK0 := Lib.hid (show _ from And.intro s0 (And.intro s1 (And.intro c0 (And.intro c1 (And.intro o0 (And.intro o1 (And.intro i0 (And.intro i1 (sB4.out.drew)))))))))
          clear hV
          refine wp_region_held_drew (S := (fun W' => W'.cell? ⟨w1.heap.size, 0, none⟩ = some (.int .i64 f) ∧ W'.cell? ⟨w1.heap.size, 1, none⟩ = some (.int .i64 (f + a2)) ∧ W'.cell? ⟨y1.heap.size, 0, none⟩ = some (.int .i64 F) ∧ W'.cell? ⟨y1.heap.size, 1, none⟩ = some (.int .i64 (F + N)) ∧ W'.cell? ⟨y2.heap.size, 0, none⟩ = some (.int .i64 F) ∧ W'.cell? ⟨y2.heap.size, 1, none⟩ = some (.int .i64 (F + N)) ∧ W'.cell? ⟨y3.heap.size, 0, none⟩ = some (.int .i64 F) ∧ W'.cell? ⟨y3.heap.size, 1, none⟩ = some (.int .i64 (F + N)) ∧ Below w.heap.size w W')) (by kernel_rfl) (by exact HK0.out) (fun hHeld2 => ?_)
          refine wpAnyH_take (i := 0) (oi := { dst := some 123, op := _, type := _, pos := _, after := _, guard := _ }) (v := ?v2x0) rfl (by kernel_rfl) (by kernel_rfl) (by kernel_rfl) (fun _ _ _ h => h) (Or.inl ⟨by kernel_rfl, ?y2x0⟩) (by assumption) ?r2x0
          case y2x0 =>
            intro wS hSw
            (try dsimp only at hSw)
            first | (go_simp; done) | (go_simp; with_reducible rfl)
          (try simp only [Act.put, List.setIfInBounds_toArray, List.set_cons_zero, List.set_cons_succ])
          refine wpAnyH_take (i := 1) (oi := { dst := some 124, op := _, type := _, pos := _, after := _, guard := _ }) (v := ?v2x1) rfl (by kernel_rfl) (by kernel_rfl) (by kernel_rfl) (fun _ _ _ h => h) (Or.inl ⟨by kernel_rfl, ?y2x1⟩) (by assumption) ?r2x1
          case y2x1 =>
            intro wS hSw
            (try dsimp only at hSw)
            first | (go_simp; done) | (go_simp; with_reducible rfl)
          (try simp only [Act.put, List.setIfInBounds_toArray, List.set_cons_zero, List.set_cons_succ])
          refine wpAnyH_take (i := 2) (oi := { dst := some 125, op := _, type := _, pos := _, after := _, guard := _ }) (v := ?v2x2) rfl (by kernel_rfl) (by kernel_rfl) (by kernel_rfl) (fun _ _ _ h => h) (Or.inl ⟨by kernel_rfl, ?y2x2⟩) (by assumption) ?r2x2
          case y2x2 =>
            intro wS hSw
            (try dsimp only at hSw)
            first | (go_simp; done) | (go_simp; with_reducible rfl)
          (try simp only [Act.put, List.setIfInBounds_toArray, List.set_cons_zero, List.set_cons_succ])
          refine wpAnyH_take (i := 3) (oi := { dst := some 126, op := _, type := _, pos := _, after := _, guard := _ }) (v := ?v2x3) rfl (by kernel_rfl) (by kernel_rfl) (by kernel_rfl) (fun _ _ _ h => h) (Or.inl ⟨by kernel_rfl, ?y2x3⟩) (by assumption) ?r2x3
          case y2x3 =>
            intro wS hSw
            (try dsimp only at hSw)
            first | (go_simp; done) | (go_simp; with_reducible rfl)
          (try simp only [Act.put, List.setIfInBounds_toArray, List.set_cons_zero, List.set_cons_succ])
          refine wpAnyH_take (i := 4) (oi := { dst := some 127, op := _, type := _, pos := _, after := _, guard := _ }) (v := ?v2x4) rfl (by kernel_rfl) (by kernel_rfl) (by kernel_rfl) (fun _ _ _ h => h) (Or.inl ⟨by kernel_rfl, ?y2x4⟩) (by assumption) ?r2x4
          case y2x4 =>
            intro wS hSw
            (try dsimp only at hSw)
            first | (go_simp; done) | (go_simp; with_reducible rfl)
          (try simp only [Act.put, List.setIfInBounds_toArray, List.set_cons_zero, List.set_cons_succ])
          refine wpAnyH_take (i := 5) (oi := { dst := some 128, op := _, type := _, pos := _, after := _, guard := _ }) (v := ?v2x5) rfl (by kernel_rfl) (by kernel_rfl) (by kernel_rfl) (fun _ _ _ h => h) (Or.inl ⟨by kernel_rfl, ?y2x5⟩) (by assumption) ?r2x5
          case y2x5 =>
            intro wS hSw
            (try dsimp only at hSw)
            first | (go_simp; done) | (go_simp; with_reducible rfl)
          (try simp only [Act.put, List.setIfInBounds_toArray, List.set_cons_zero, List.set_cons_succ])
          refine wpAnyH_take (i := 6) (oi := { dst := some 129, op := _, type := _, pos := _, after := _, guard := _ }) (v := ?v2x6) rfl (by kernel_rfl) (by kernel_rfl) (by kernel_rfl) (fun _ _ _ h => h) (Or.inl ⟨by kernel_rfl, ?y2x6⟩) (by assumption) ?r2x6
          case y2x6 =>
            intro wS hSw
            (try dsimp only at hSw)
            first | (go_simp; done) | (go_simp; with_reducible rfl)
          (try simp only [Act.put, List.setIfInBounds_toArray, List.set_cons_zero, List.set_cons_succ])
          refine wpAnyH_take (i := 7) (oi := { dst := some 130, op := _, type := _, pos := _, after := _, guard := _ }) (v := ?v2x7) rfl (by kernel_rfl) (by kernel_rfl) (by kernel_rfl) (fun _ _ _ h => h) (Or.inl ⟨by kernel_rfl, ?y2x7⟩) (by assumption) ?r2x7
          case y2x7 =>
            intro wS hSw
            (try dsimp only at hSw)
            first | (go_simp; done) | (go_simp; with_reducible rfl)
          (try simp only [Act.put, List.setIfInBounds_toArray, List.set_cons_zero, List.set_cons_succ])
          refine wpAnyH_take (i := 8) (oi := { dst := some 131, op := _, type := _, pos := _, after := _, guard := _ }) (v := ?v2x8) rfl (by kernel_rfl) (by kernel_rfl) (by kernel_rfl) (fun _ _ _ h => h) (Or.inl ⟨by kernel_rfl, ?y2x8⟩) (by assumption) ?r2x8
          case y2x8 =>
            intro wS hSw
            (try dsimp only at hSw)
            first | (go_simp; done) | (go_simp; with_reducible rfl)
          (try simp only [Act.put, List.setIfInBounds_toArray, List.set_cons_zero, List.set_cons_succ])
          refine wpAnyH_take (i := 9) (oi := { dst := some 132, op := _, type := _, pos := _, after := _, guard := _ }) (v := ?v2x9) rfl (by kernel_rfl) (by kernel_rfl) (by kernel_rfl) (fun _ _ _ h => h) (Or.inl ⟨by kernel_rfl, ?y2x9⟩) (by assumption) ?r2x9
          case y2x9 =>
            intro wS hSw
            (try dsimp only at hSw)
            first | (go_simp; done) | (go_simp; with_reducible rfl)
          (try simp only [Act.put, List.setIfInBounds_toArray, List.set_cons_zero, List.set_cons_succ])
          refine wpAnyH_take (i := 10) (oi := { dst := some 133, op := _, type := _, pos := _, after := _, guard := _ }) (v := ?v2x10) rfl (by kernel_rfl) (by kernel_rfl) (by kernel_rfl) (fun _ _ _ h => h) (Or.inl ⟨by kernel_rfl, ?y2x10⟩) (by assumption) ?r2x10
          case y2x10 =>
            intro wS hSw
            (try dsimp only at hSw)
            first | (go_simp; done) | (go_simp; with_reducible rfl)
          (try simp only [Act.put, List.setIfInBounds_toArray, List.set_cons_zero, List.set_cons_succ])
          refine wpAnyH_take (i := 11) (oi := { dst := some 134, op := _, type := _, pos := _, after := _, guard := _ }) (v := ?v2x11) rfl (by kernel_rfl) (by kernel_rfl) (by kernel_rfl) (fun _ _ _ h => h) (Or.inl ⟨by kernel_rfl, ?y2x11⟩) (by assumption) ?r2x11
          case y2x11 =>
            intro wS hSw
            (try dsimp only at hSw)
            first | (go_simp; done) | (go_simp; with_reducible rfl)
          (try simp only [Act.put, List.setIfInBounds_toArray, List.set_cons_zero, List.set_cons_succ])
          refine wpAnyH_take (i := 12) (oi := { dst := some 135, op := _, type := _, pos := _, after := _, guard := _ }) (v := ?v2x12) rfl (by kernel_rfl) (by kernel_rfl) (by kernel_rfl) (fun _ _ _ h => h) (Or.inl ⟨by kernel_rfl, ?y2x12⟩) (by assumption) ?r2x12
          case y2x12 =>
            intro wS hSw
            (try dsimp only at hSw)
            first | (go_simp; done) | (go_simp; with_reducible rfl)
          (try simp only [Act.put, List.setIfInBounds_toArray, List.set_cons_zero, List.set_cons_succ])
          refine wpAnyH_take (i := 13) (oi := { dst := some 136, op := _, type := _, pos := _, after := _, guard := _ }) (v := ?v2x13) rfl (by kernel_rfl) (by kernel_rfl) (by kernel_rfl) (fun _ _ _ h => h) (Or.inl ⟨by kernel_rfl, ?y2x13⟩) (by assumption) ?r2x13
          case y2x13 =>
            intro wS hSw
            (try dsimp only at hSw)
            first | (go_simp; done) | (go_simp; with_reducible rfl)
          (try simp only [Act.put, List.setIfInBounds_toArray, List.set_cons_zero, List.set_cons_succ])
          refine wpAnyH_take (i := 14) (oi := { dst := some 137, op := _, type := _, pos := _, after := _, guard := _ }) (v := ?v2x14) rfl (by kernel_rfl) (by kernel_rfl) (by kernel_rfl) (fun _ _ _ h => h) (Or.inl ⟨by kernel_rfl, ?y2x14⟩) (by assumption) ?r2x14
          case y2x14 =>
            intro wS hSw
            (try dsimp only at hSw)
            first | (go_simp; done) | (go_simp; with_reducible rfl)
          (try simp only [Act.put, List.setIfInBounds_toArray, List.set_cons_zero, List.set_cons_succ])
          refine wpAnyH_take (i := 15) (oi := { dst := some 138, op := _, type := _, pos := _, after := _, guard := _ }) (v := ?v2x15) rfl (by kernel_rfl) (by kernel_rfl) (by kernel_rfl) (fun _ _ _ h => h) (Or.inl ⟨by kernel_rfl, ?y2x15⟩) (by assumption) ?r2x15
          case y2x15 =>
            intro wS hSw
            (try dsimp only at hSw)
            first | (go_simp; done) | (go_simp; with_reducible rfl)
          (try simp only [Act.put, List.setIfInBounds_toArray, List.set_cons_zero, List.set_cons_succ])
          refine wpAnyH_take (i := 16) (oi := { dst := some 139, op := _, type := _, pos := _, after := _, guard := _ }) (v := ?v2x16) rfl (by kernel_rfl) (by kernel_rfl) (by kernel_rfl) (fun _ _ _ h => h) (Or.inl ⟨by kernel_rfl, ?y2x16⟩) (by assumption) ?r2x16
          case y2x16 =>
            intro wS hSw
            (try dsimp only at hSw)
            first | (go_simp; done) | (go_simp; with_reducible rfl)
          (try simp only [Act.put, List.setIfInBounds_toArray, List.set_cons_zero, List.set_cons_succ])
          refine wpAnyH_take (i := 17) (oi := { dst := some 140, op := _, type := _, pos := _, after := _, guard := _ }) (v := ?v2x17) rfl (by kernel_rfl) (by kernel_rfl) (by kernel_rfl) (fun _ _ _ h => h) (Or.inl ⟨by kernel_rfl, ?y2x17⟩) (by assumption) ?r2x17
          case y2x17 =>
            intro wS hSw
            (try dsimp only at hSw)
            first | (go_simp; done) | (go_simp; with_reducible rfl)
          (try simp only [Act.put, List.setIfInBounds_toArray, List.set_cons_zero, List.set_cons_succ])
          refine wpAnyH_take (i := 18) (oi := { dst := some 141, op := _, type := _, pos := _, after := _, guard := _ }) (v := ?v2x18) rfl (by kernel_rfl) (by kernel_rfl) (by kernel_rfl) (fun _ _ _ h => h) (Or.inl ⟨by kernel_rfl, ?y2x18⟩) (by assumption) ?r2x18
          case y2x18 =>
            intro wS hSw
            (try dsimp only at hSw)
            first | (go_simp; done) | (go_simp; with_reducible rfl)
          (try simp only [Act.put, List.setIfInBounds_toArray, List.set_cons_zero, List.set_cons_succ])
          refine wpAnyH_take (i := 19) (oi := { dst := some 142, op := _, type := _, pos := _, after := _, guard := _ }) (v := ?v2x19) rfl (by kernel_rfl) (by kernel_rfl) (by kernel_rfl) (fun _ _ _ h => h) (Or.inl ⟨by kernel_rfl, ?y2x19⟩) (by assumption) ?r2x19
          case y2x19 =>
            intro wS hSw
            (try dsimp only at hSw)
            first | (go_simp; done) | (go_simp; with_reducible rfl)
          (try simp only [Act.put, List.setIfInBounds_toArray, List.set_cons_zero, List.set_cons_succ])
          refine wpAnyH_take (i := 20) (oi := { dst := some 143, op := _, type := _, pos := _, after := _, guard := _ }) (v := ?v2x20) rfl (by kernel_rfl) (by kernel_rfl) (by kernel_rfl) (fun _ _ _ h => h) (Or.inl ⟨by kernel_rfl, ?y2x20⟩) (by assumption) ?r2x20
          case y2x20 =>
            intro wS hSw
            (try dsimp only at hSw)
            first | (go_simp; done) | (go_simp; with_reducible rfl)
          (try simp only [Act.put, List.setIfInBounds_toArray, List.set_cons_zero, List.set_cons_succ])
          refine wpAnyH_take (i := 21) (oi := { dst := some 144, op := _, type := _, pos := _, after := _, guard := _ }) (v := ?v2x21) rfl (by kernel_rfl) (by kernel_rfl) (by kernel_rfl) (fun _ _ _ h => h) (Or.inl ⟨by kernel_rfl, ?y2x21⟩) (by assumption) ?r2x21
          case y2x21 =>
            intro wS hSw
            (try dsimp only at hSw)
            first | (go_simp; done) | (go_simp; with_reducible rfl)
          (try simp only [Act.put, List.setIfInBounds_toArray, List.set_cons_zero, List.set_cons_succ])
          refine wpAnyH_take (i := 22) (oi := { dst := some 145, op := _, type := _, pos := _, after := _, guard := _ }) (v := ?v2x22) rfl (by kernel_rfl) (by kernel_rfl) (by kernel_rfl) (fun _ _ _ h => h) (Or.inl ⟨by kernel_rfl, ?y2x22⟩) (by assumption) ?r2x22
          case y2x22 =>
            intro wS hSw
            (try dsimp only at hSw)
            first | (go_simp; done) | (go_simp; with_reducible rfl)
          (try simp only [Act.put, List.setIfInBounds_toArray, List.set_cons_zero, List.set_cons_succ])
          refine wpAnyH_take (i := 24) (oi := { dst := some 147, op := _, type := _, pos := _, after := _, guard := _ }) (v := ?v2x23) rfl (by kernel_rfl) (by kernel_rfl) (by kernel_rfl) (fun _ _ _ h => h) (Or.inl ⟨by kernel_rfl, ?y2x23⟩) (by assumption) ?r2x23
          case y2x23 =>
            intro wS hSw
            (try dsimp only at hSw)
            first | (go_simp; done) | (go_simp; with_reducible rfl)
          (try simp only [Act.put, List.setIfInBounds_toArray, List.set_cons_zero, List.set_cons_succ])
          refine wpAnyH_ready (rs := [23]) (by kernel_rfl) (by simp) ?_
          refine AllReadyH.cons (o := { dst := some 146, op := _, type := _, pos := _, after := _, guard := _ }) rfl (fun K2x24 hK2x24 => ?_) AllReadyH.nil
          go_simp
          refine (and_any _ _ _ _ _).mono ?_
          rintro e z1 ⟨rfl, hb⟩
          rw [E6.out]
          simp only [spanV]
          have HZ1 := Lib.hid (keep8 (w := V.drew) hb HK0.out)
          clear hb
          go_simp
          refine hK2x24.out _ _ (by exact HZ1.out) (fun hHeld2x24 => ?_)
          clear hK2x24 K2x24
          (try simp only [Act.put, List.setIfInBounds_toArray, List.set_cons_zero, List.set_cons_succ])
          refine wpAnyH_take (i := 25) (oi := { dst := some 148, op := _, type := _, pos := _, after := _, guard := _ }) (v := ?v2x25) rfl (by kernel_rfl) (by kernel_rfl) (by kernel_rfl) (fun _ _ _ h => h) (Or.inl ⟨by kernel_rfl, ?y2x25⟩) (by assumption) ?r2x25
          case y2x25 =>
            intro wS hSw
            (try dsimp only at hSw)
            first | (go_simp; done) | (go_simp; with_reducible rfl)
          (try simp only [Act.put, List.setIfInBounds_toArray, List.set_cons_zero, List.set_cons_succ])
          refine wpAnyH_take (i := 26) (oi := { dst := some 149, op := _, type := _, pos := _, after := _, guard := _ }) (v := ?v2x26) rfl (by kernel_rfl) (by kernel_rfl) (by kernel_rfl) (fun _ _ _ h => h) (Or.inl ⟨by kernel_rfl, ?y2x26⟩) (by assumption) ?r2x26
          case y2x26 =>
            intro wS hSw
            (try dsimp only at hSw)
            first | (go_simp; done) | (go_simp; with_reducible rfl)
          (try simp only [Act.put, List.setIfInBounds_toArray, List.set_cons_zero, List.set_cons_succ])
          refine wpAnyH_take (i := 27) (oi := { dst := some 150, op := _, type := _, pos := _, after := _, guard := _ }) (v := ?v2x27) rfl (by kernel_rfl) (by kernel_rfl) (by kernel_rfl) (fun _ _ _ h => h) (Or.inl ⟨by kernel_rfl, ?y2x27⟩) (by assumption) ?r2x27
          case y2x27 =>
            intro wS hSw
            (try dsimp only at hSw)
            first | (go_simp; done) | (go_simp; with_reducible rfl)
          (try simp only [Act.put, List.setIfInBounds_toArray, List.set_cons_zero, List.set_cons_succ])
          refine wpAnyH_ready (rs := [28]) (by kernel_rfl) (by simp) ?_
          refine AllReadyH.cons (o := { dst := some 151, op := _, type := _, pos := _, after := _, guard := _ }) rfl (fun K2x28 hK2x28 => ?_) AllReadyH.nil
          go_simp
          refine (wakes_any _).mono ?_
          rintro e z2 ⟨rfl, hb⟩
          have HZ2 := Lib.hid (keep8 hb HZ1.out)
          clear hb
          go_simp
          refine hK2x28.out _ _ (by exact HZ2.out) (fun hHeld2x28 => ?_)
          clear hK2x28 K2x28
          (try simp only [Act.put, List.setIfInBounds_toArray, List.set_cons_zero, List.set_cons_succ])
          refine wpAnyH_take (i := 29) (oi := { dst := some 152, op := _, type := _, pos := _, after := _, guard := _ }) (v := ?v2x29) rfl (by kernel_rfl) (by kernel_rfl) (by kernel_rfl) (fun _ _ _ h => h) (Or.inl ⟨by kernel_rfl, ?y2x29⟩) (by assumption) ?r2x29
          case y2x29 =>
            intro wS hSw
            (try dsimp only at hSw)
            first | (go_simp; done) | (go_simp; with_reducible rfl)
          (try simp only [Act.put, List.setIfInBounds_toArray, List.set_cons_zero, List.set_cons_succ])
          refine wpAnyH_take (i := 30) (oi := { dst := some 8, op := _, type := _, pos := _, after := _, guard := _ }) (v := ?v2x30) rfl (by kernel_rfl) (by kernel_rfl) (by kernel_rfl) (fun _ _ _ h => h) (Or.inl ⟨by kernel_rfl, ?y2x30⟩) (by assumption) ?r2x30
          case y2x30 =>
            intro wS hSw
            (try dsimp only at hSw)
            first | (go_simp; done) | (go_simp; with_reducible rfl)
          (try simp only [Act.put, List.setIfInBounds_toArray, List.set_cons_zero, List.set_cons_succ])
          refine wpAnyH_done (by kernel_rfl) ?_ _
          (try dsimp only [Act.put])
          (try simp only [Act.put, List.setIfInBounds_toArray, List.set_cons_zero, List.set_cons_succ])
          go_wp2_with fail
          go_ret
          exact ⟨rfl, HZ2.out.2.2.2.2.2.2.2.2⟩
    · have HH := Lib.hid hh
      have HA := Lib.hid han
      clear hh han
      refine wp_region_held_drew (S := (fun W' => W'.cell? ⟨w1.heap.size, 0, none⟩ = some (.int .i64 f) ∧ W'.cell? ⟨w1.heap.size, 1, none⟩ = some (.int .i64 (f + a2)) ∧ W'.cell? ⟨w2.heap.size, 0, none⟩ = some (.int .i64 g) ∧ W'.cell? ⟨w2.heap.size, 1, none⟩ = some (.int .i64 (g + a2)) ∧ Below w.heap.size w W')) (by kernel_rfl) (by exact ⟨e0, e1, d0, d1, HB.out.drew⟩) (fun hHeld3 => ?_)
      refine wpAnyH_take (i := 0) (oi := { dst := some 45, op := _, type := _, pos := _, after := _, guard := _ }) (v := ?v3x0) rfl (by kernel_rfl) (by kernel_rfl) (by kernel_rfl) (fun _ _ _ h => h) (Or.inl ⟨by kernel_rfl, ?y3x0⟩) (by assumption) ?r3x0
      case y3x0 =>
        intro wS hSw
        (try dsimp only at hSw)
        first | (go_simp; done) | (go_simp; with_reducible rfl)
      (try simp only [Act.put, List.setIfInBounds_toArray, List.set_cons_zero, List.set_cons_succ])
      refine wpAnyH_take (i := 1) (oi := { dst := some 46, op := _, type := _, pos := _, after := _, guard := _ }) (v := ?v3x1) rfl (by kernel_rfl) (by kernel_rfl) (by kernel_rfl) (fun _ _ _ h => h) (Or.inl ⟨by kernel_rfl, ?y3x1⟩) (by assumption) ?r3x1
      case y3x1 =>
        intro wS hSw
        (try dsimp only at hSw)
        first | (go_simp; done) | (go_simp; with_reducible rfl)
      (try simp only [Act.put, List.setIfInBounds_toArray, List.set_cons_zero, List.set_cons_succ])
      refine wpAnyH_take (i := 2) (oi := { dst := some 47, op := _, type := _, pos := _, after := _, guard := _ }) (v := ?v3x2) rfl (by kernel_rfl) (by kernel_rfl) (by kernel_rfl) (fun _ _ _ h => h) (Or.inl ⟨by kernel_rfl, ?y3x2⟩) (by assumption) ?r3x2
      case y3x2 =>
        intro wS hSw
        (try dsimp only at hSw)
        first | (go_simp; done) | (go_simp; with_reducible rfl)
      (try simp only [Act.put, List.setIfInBounds_toArray, List.set_cons_zero, List.set_cons_succ])
      refine wpAnyH_take (i := 3) (oi := { dst := some 48, op := _, type := _, pos := _, after := _, guard := _ }) (v := ?v3x3) rfl (by kernel_rfl) (by kernel_rfl) (by kernel_rfl) (fun _ _ _ h => h) (Or.inl ⟨by kernel_rfl, ?y3x3⟩) (by assumption) ?r3x3
      case y3x3 =>
        intro wS hSw
        (try dsimp only at hSw)
        first | (go_simp; done) | (go_simp; with_reducible rfl)
      (try simp only [Act.put, List.setIfInBounds_toArray, List.set_cons_zero, List.set_cons_succ])
      refine wpAnyH_take (i := 4) (oi := { dst := some 49, op := _, type := _, pos := _, after := _, guard := _ }) (v := ?v3x4) rfl (by kernel_rfl) (by kernel_rfl) (by kernel_rfl) (fun _ _ _ h => h) (Or.inl ⟨by kernel_rfl, ?y3x4⟩) (by assumption) ?r3x4
      case y3x4 =>
        intro wS hSw
        (try dsimp only at hSw)
        first | (go_simp; done) | (go_simp; with_reducible rfl)
      (try simp only [Act.put, List.setIfInBounds_toArray, List.set_cons_zero, List.set_cons_succ])
      refine wpAnyH_take (i := 5) (oi := { dst := some 50, op := _, type := _, pos := _, after := _, guard := _ }) (v := ?v3x5) rfl (by kernel_rfl) (by kernel_rfl) (by kernel_rfl) (fun _ _ _ h => h) (Or.inl ⟨by kernel_rfl, ?y3x5⟩) (by assumption) ?r3x5
      case y3x5 =>
        intro wS hSw
        (try dsimp only at hSw)
        first | (go_simp; done) | (go_simp; with_reducible rfl)
      (try simp only [Act.put, List.setIfInBounds_toArray, List.set_cons_zero, List.set_cons_succ])
      refine wpAnyH_take (i := 6) (oi := { dst := some 51, op := _, type := _, pos := _, after := _, guard := _ }) (v := ?v3x6) rfl (by kernel_rfl) (by kernel_rfl) (by kernel_rfl) (fun _ _ _ h => h) (Or.inl ⟨by kernel_rfl, ?y3x6⟩) (by assumption) ?r3x6
      case y3x6 =>
        intro wS hSw
        (try dsimp only at hSw)
        first | (go_simp; done) | (go_simp; with_reducible rfl)
      (try simp only [Act.put, List.setIfInBounds_toArray, List.set_cons_zero, List.set_cons_succ])
      refine wpAnyH_take (i := 7) (oi := { dst := some 52, op := _, type := _, pos := _, after := _, guard := _ }) (v := ?v3x7) rfl (by kernel_rfl) (by kernel_rfl) (by kernel_rfl) (fun _ _ _ h => h) (Or.inl ⟨by kernel_rfl, ?y3x7⟩) (by assumption) ?r3x7
      case y3x7 =>
        intro wS hSw
        (try dsimp only at hSw)
        first | (go_simp; done) | (go_simp; with_reducible rfl)
      (try simp only [Act.put, List.setIfInBounds_toArray, List.set_cons_zero, List.set_cons_succ])
      refine wpAnyH_take (i := 8) (oi := { dst := some 53, op := _, type := _, pos := _, after := _, guard := _ }) (v := ?v3x8) rfl (by kernel_rfl) (by kernel_rfl) (by kernel_rfl) (fun _ _ _ h => h) (Or.inl ⟨by kernel_rfl, ?y3x8⟩) (by assumption) ?r3x8
      case y3x8 =>
        intro wS hSw
        (try dsimp only at hSw)
        first | (go_simp; done) | (go_simp; with_reducible rfl)
      (try simp only [Act.put, List.setIfInBounds_toArray, List.set_cons_zero, List.set_cons_succ])
      refine wpAnyH_ready (rs := [9]) (by kernel_rfl) (by simp) ?_
      refine AllReadyH.cons (o := { dst := some 54, op := _, type := _, pos := _, after := _, guard := _ }) rfl (fun K3x9 hK3x9 => ?_) AllReadyH.nil
      go_simp
      refine (has_any _ _ _ _).mono ?_
      rintro e x1 ⟨rfl, hb⟩
      rw [H1.out]
      have HS1 := Lib.hid (keep4 (w := W.drew) hb ⟨e0, e1, d0, d1, HB.out.drew⟩)
      clear hb
      go_simp
      refine hK3x9.out _ _ (by exact HS1.out) (fun hHeld3x9 => ?_)
      clear hK3x9 K3x9
      (try simp only [Act.put, List.setIfInBounds_toArray, List.set_cons_zero, List.set_cons_succ])
      refine wpAnyH_take (i := 10) (oi := { dst := some 55, op := _, type := _, pos := _, after := _, guard := _ }) (v := ?v3x10) rfl (by kernel_rfl) (by kernel_rfl) (by kernel_rfl) (fun _ _ _ h => h) (Or.inl ⟨by kernel_rfl, ?y3x10⟩) (by assumption) ?r3x10
      case y3x10 =>
        intro wS hSw
        (try dsimp only at hSw)
        first | (go_simp; done) | (go_simp; with_reducible rfl)
      (try simp only [Act.put, List.setIfInBounds_toArray, List.set_cons_zero, List.set_cons_succ])
      refine wpAnyH_take (i := 11) (oi := { dst := some 56, op := _, type := _, pos := _, after := _, guard := _ }) (v := ?v3x11) rfl (by kernel_rfl) (by kernel_rfl) (by kernel_rfl) (fun _ _ _ h => h) (Or.inl ⟨by kernel_rfl, ?y3x11⟩) (by assumption) ?r3x11
      case y3x11 =>
        intro wS hSw
        (try dsimp only at hSw)
        first | (go_simp; done) | (go_simp; with_reducible rfl)
      (try simp only [Act.put, List.setIfInBounds_toArray, List.set_cons_zero, List.set_cons_succ])
      refine wpAnyH_take (i := 12) (oi := { dst := some 57, op := _, type := _, pos := _, after := _, guard := _ }) (v := ?v3x12) rfl (by kernel_rfl) (by kernel_rfl) (by kernel_rfl) (fun _ _ _ h => h) (Or.inl ⟨by kernel_rfl, ?y3x12⟩) (by assumption) ?r3x12
      case y3x12 =>
        intro wS hSw
        (try dsimp only at hSw)
        first | (go_simp; done) | (go_simp; with_reducible rfl)
      (try simp only [Act.put, List.setIfInBounds_toArray, List.set_cons_zero, List.set_cons_succ])
      refine wpAnyH_take (i := 13) (oi := { dst := some 58, op := _, type := _, pos := _, after := _, guard := _ }) (v := ?v3x13) rfl (by kernel_rfl) (by kernel_rfl) (by kernel_rfl) (fun _ _ _ h => h) (Or.inl ⟨by kernel_rfl, ?y3x13⟩) (by assumption) ?r3x13
      case y3x13 =>
        intro wS hSw
        (try dsimp only at hSw)
        first | (go_simp; done) | (go_simp; with_reducible rfl)
      (try simp only [Act.put, List.setIfInBounds_toArray, List.set_cons_zero, List.set_cons_succ])
      refine wpAnyH_take (i := 14) (oi := { dst := some 59, op := _, type := _, pos := _, after := _, guard := _ }) (v := ?v3x14) rfl (by kernel_rfl) (by kernel_rfl) (by kernel_rfl) (fun _ _ _ h => h) (Or.inl ⟨by kernel_rfl, ?y3x14⟩) (by assumption) ?r3x14
      case y3x14 =>
        intro wS hSw
        (try dsimp only at hSw)
        first | (go_simp; done) | (go_simp; with_reducible rfl)
      (try simp only [Act.put, List.setIfInBounds_toArray, List.set_cons_zero, List.set_cons_succ])
      refine wpAnyH_take (i := 15) (oi := { dst := some 60, op := _, type := _, pos := _, after := _, guard := _ }) (v := ?v3x15) rfl (by kernel_rfl) (by kernel_rfl) (by kernel_rfl) (fun _ _ _ h => h) (Or.inl ⟨by kernel_rfl, ?y3x15⟩) (by assumption) ?r3x15
      case y3x15 =>
        intro wS hSw
        (try dsimp only at hSw)
        first | (go_simp; done) | (go_simp; with_reducible rfl)
      (try simp only [Act.put, List.setIfInBounds_toArray, List.set_cons_zero, List.set_cons_succ])
      refine wpAnyH_take (i := 16) (oi := { dst := some 61, op := _, type := _, pos := _, after := _, guard := _ }) (v := ?v3x16) rfl (by kernel_rfl) (by kernel_rfl) (by kernel_rfl) (fun _ _ _ h => h) (Or.inl ⟨by kernel_rfl, ?y3x16⟩) (by assumption) ?r3x16
      case y3x16 =>
        intro wS hSw
        (try dsimp only at hSw)
        first | (go_simp; done) | (go_simp; with_reducible rfl)
      (try simp only [Act.put, List.setIfInBounds_toArray, List.set_cons_zero, List.set_cons_succ])
      refine wpAnyH_take (i := 17) (oi := { dst := some 62, op := _, type := _, pos := _, after := _, guard := _ }) (v := ?v3x17) rfl (by kernel_rfl) (by kernel_rfl) (by kernel_rfl) (fun _ _ _ h => h) (Or.inl ⟨by kernel_rfl, ?y3x17⟩) (by assumption) ?r3x17
      case y3x17 =>
        intro wS hSw
        (try dsimp only at hSw)
        first | (go_simp; done) | (go_simp; with_reducible rfl)
      (try simp only [Act.put, List.setIfInBounds_toArray, List.set_cons_zero, List.set_cons_succ])
      refine wpAnyH_take (i := 18) (oi := { dst := some 63, op := _, type := _, pos := _, after := _, guard := _ }) (v := ?v3x18) rfl (by kernel_rfl) (by kernel_rfl) (by kernel_rfl) (fun _ _ _ h => h) (Or.inl ⟨by kernel_rfl, ?y3x18⟩) (by assumption) ?r3x18
      case y3x18 =>
        intro wS hSw
        (try dsimp only at hSw)
        first | (go_simp; done) | (go_simp; with_reducible rfl)
      (try simp only [Act.put, List.setIfInBounds_toArray, List.set_cons_zero, List.set_cons_succ])
      refine wpAnyH_take (i := 19) (oi := { dst := some 64, op := _, type := _, pos := _, after := _, guard := _ }) (v := ?v3x19) rfl (by kernel_rfl) (by kernel_rfl) (by kernel_rfl) (fun _ _ _ h => h) (Or.inl ⟨by kernel_rfl, ?y3x19⟩) (by assumption) ?r3x19
      case y3x19 =>
        intro wS hSw
        (try dsimp only at hSw)
        first | (go_simp; done) | (go_simp; with_reducible rfl)
      (try simp only [Act.put, List.setIfInBounds_toArray, List.set_cons_zero, List.set_cons_succ])
      refine wpAnyH_take (i := 20) (oi := { dst := some 65, op := _, type := _, pos := _, after := _, guard := _ }) (v := ?v3x20) rfl (by kernel_rfl) (by kernel_rfl) (by kernel_rfl) (fun _ _ _ h => h) (Or.inl ⟨by kernel_rfl, ?y3x20⟩) (by assumption) ?r3x20
      case y3x20 =>
        intro wS hSw
        (try dsimp only at hSw)
        first | (go_simp; done) | (go_simp; with_reducible rfl)
      (try simp only [Act.put, List.setIfInBounds_toArray, List.set_cons_zero, List.set_cons_succ])
      refine wpAnyH_take (i := 21) (oi := { dst := some 66, op := _, type := _, pos := _, after := _, guard := _ }) (v := ?v3x21) rfl (by kernel_rfl) (by kernel_rfl) (by kernel_rfl) (fun _ _ _ h => h) (Or.inl ⟨by kernel_rfl, ?y3x21⟩) (by assumption) ?r3x21
      case y3x21 =>
        intro wS hSw
        (try dsimp only at hSw)
        first | (go_simp; done) | (go_simp; with_reducible rfl)
      (try simp only [Act.put, List.setIfInBounds_toArray, List.set_cons_zero, List.set_cons_succ])
      refine wpAnyH_take (i := 22) (oi := { dst := some 67, op := _, type := _, pos := _, after := _, guard := _ }) (v := ?v3x22) rfl (by kernel_rfl) (by kernel_rfl) (by kernel_rfl) (fun _ _ _ h => h) (Or.inl ⟨by kernel_rfl, ?y3x22⟩) (by assumption) ?r3x22
      case y3x22 =>
        intro wS hSw
        (try dsimp only at hSw)
        first | (go_simp; done) | (go_simp; with_reducible rfl)
      (try simp only [Act.put, List.setIfInBounds_toArray, List.set_cons_zero, List.set_cons_succ])
      refine wpAnyH_take (i := 23) (oi := { dst := some 68, op := _, type := _, pos := _, after := _, guard := _ }) (v := ?v3x23) rfl (by kernel_rfl) (by kernel_rfl) (by kernel_rfl) (fun _ _ _ h => h) (Or.inl ⟨by kernel_rfl, ?y3x23⟩) (by assumption) ?r3x23
      case y3x23 =>
        intro wS hSw
        (try dsimp only at hSw)
        first | (go_simp; done) | (go_simp; with_reducible rfl)
      (try simp only [Act.put, List.setIfInBounds_toArray, List.set_cons_zero, List.set_cons_succ])
      refine wpAnyH_take (i := 24) (oi := { dst := some 69, op := _, type := _, pos := _, after := _, guard := _ }) (v := ?v3x24) rfl (by kernel_rfl) (by kernel_rfl) (by kernel_rfl) (fun _ _ _ h => h) (Or.inl ⟨by kernel_rfl, ?y3x24⟩) (by assumption) ?r3x24
      case y3x24 =>
        intro wS hSw
        (try dsimp only at hSw)
        first | (go_simp; done) | (go_simp; with_reducible rfl)
      (try simp only [Act.put, List.setIfInBounds_toArray, List.set_cons_zero, List.set_cons_succ])
      refine wpAnyH_take (i := 25) (oi := { dst := some 70, op := _, type := _, pos := _, after := _, guard := _ }) (v := ?v3x25) rfl (by kernel_rfl) (by kernel_rfl) (by kernel_rfl) (fun _ _ _ h => h) (Or.inl ⟨by kernel_rfl, ?y3x25⟩) (by assumption) ?r3x25
      case y3x25 =>
        intro wS hSw
        (try dsimp only at hSw)
        first | (go_simp; done) | (go_simp; with_reducible rfl)
      (try simp only [Act.put, List.setIfInBounds_toArray, List.set_cons_zero, List.set_cons_succ])
      refine wpAnyH_take (i := 26) (oi := { dst := some 71, op := _, type := _, pos := _, after := _, guard := _ }) (v := ?v3x26) rfl (by kernel_rfl) (by kernel_rfl) (by kernel_rfl) (fun _ _ _ h => h) (Or.inl ⟨by kernel_rfl, ?y3x26⟩) (by assumption) ?r3x26
      case y3x26 =>
        intro wS hSw
        (try dsimp only at hSw)
        first | (go_simp; done) | (go_simp; with_reducible rfl)
      (try simp only [Act.put, List.setIfInBounds_toArray, List.set_cons_zero, List.set_cons_succ])
      refine wpAnyH_take (i := 27) (oi := { dst := some 72, op := _, type := _, pos := _, after := _, guard := _ }) (v := ?v3x27) rfl (by kernel_rfl) (by kernel_rfl) (by kernel_rfl) (fun _ _ _ h => h) (Or.inl ⟨by kernel_rfl, ?y3x27⟩) (by assumption) ?r3x27
      case y3x27 =>
        intro wS hSw
        (try dsimp only at hSw)
        first | (go_simp; done) | (go_simp; with_reducible rfl)
      (try simp only [Act.put, List.setIfInBounds_toArray, List.set_cons_zero, List.set_cons_succ])
      refine wpAnyH_take (i := 28) (oi := { dst := some 73, op := _, type := _, pos := _, after := _, guard := _ }) (v := ?v3x28) rfl (by kernel_rfl) (by kernel_rfl) (by kernel_rfl) (fun _ _ _ h => h) (Or.inl ⟨by kernel_rfl, ?y3x28⟩) (by assumption) ?r3x28
      case y3x28 =>
        intro wS hSw
        (try dsimp only at hSw)
        first | (go_simp; done) | (go_simp; with_reducible rfl)
      (try simp only [Act.put, List.setIfInBounds_toArray, List.set_cons_zero, List.set_cons_succ])
      refine wpAnyH_take (i := 29) (oi := { dst := some 74, op := _, type := _, pos := _, after := _, guard := _ }) (v := ?v3x29) rfl (by kernel_rfl) (by kernel_rfl) (by kernel_rfl) (fun _ _ _ h => h) (Or.inl ⟨by kernel_rfl, ?y3x29⟩) (by assumption) ?r3x29
      case y3x29 =>
        intro wS hSw
        (try dsimp only at hSw)
        first | (go_simp; done) | (go_simp; with_reducible rfl)
      (try simp only [Act.put, List.setIfInBounds_toArray, List.set_cons_zero, List.set_cons_succ])
      refine wpAnyH_take (i := 30) (oi := { dst := some 75, op := _, type := _, pos := _, after := _, guard := _ }) (v := ?v3x30) rfl (by kernel_rfl) (by kernel_rfl) (by kernel_rfl) (fun _ _ _ h => h) (Or.inl ⟨by kernel_rfl, ?y3x30⟩) (by assumption) ?r3x30
      case y3x30 =>
        intro wS hSw
        (try dsimp only at hSw)
        first | (go_simp; done) | (go_simp; with_reducible rfl)
      (try simp only [Act.put, List.setIfInBounds_toArray, List.set_cons_zero, List.set_cons_succ])
      refine wpAnyH_take (i := 32) (oi := { dst := some 77, op := _, type := _, pos := _, after := _, guard := _ }) (v := ?v3x31) rfl (by kernel_rfl) (by kernel_rfl) (by kernel_rfl) (fun _ _ _ h => h) (Or.inl ⟨by kernel_rfl, ?y3x31⟩) (by assumption) ?r3x31
      case y3x31 =>
        intro wS hSw
        (try dsimp only at hSw)
        first | (go_simp; done) | (go_simp; with_reducible rfl)
      (try simp only [Act.put, List.setIfInBounds_toArray, List.set_cons_zero, List.set_cons_succ])
      refine wpAnyH_take (i := 33) (oi := { dst := some 78, op := _, type := _, pos := _, after := _, guard := _ }) (v := ?v3x32) rfl (by kernel_rfl) (by kernel_rfl) (by kernel_rfl) (fun _ _ _ h => h) (Or.inl ⟨by kernel_rfl, ?y3x32⟩) (by assumption) ?r3x32
      case y3x32 =>
        intro wS hSw
        (try dsimp only at hSw)
        first | (go_simp; done) | (go_simp; with_reducible rfl)
      (try simp only [Act.put, List.setIfInBounds_toArray, List.set_cons_zero, List.set_cons_succ])
      refine wpAnyH_take (i := 34) (oi := { dst := some 79, op := _, type := _, pos := _, after := _, guard := _ }) (v := ?v3x33) rfl (by kernel_rfl) (by kernel_rfl) (by kernel_rfl) (fun _ _ _ h => h) (Or.inl ⟨by kernel_rfl, ?y3x33⟩) (by assumption) ?r3x33
      case y3x33 =>
        intro wS hSw
        (try dsimp only at hSw)
        first | (go_simp; done) | (go_simp; with_reducible rfl)
      (try simp only [Act.put, List.setIfInBounds_toArray, List.set_cons_zero, List.set_cons_succ])
      refine wpAnyH_ready (rs := [31]) (by kernel_rfl) (by simp) ?_
      refine AllReadyH.cons (o := { dst := some 76, op := _, type := _, pos := _, after := _, guard := _ }) rfl (fun K3x34 hK3x34 => ?_) AllReadyH.nil
      go_simp
      refine (has_any _ _ _ _).mono ?_
      rintro e x2 ⟨rfl, hb⟩
      rw [HH.out]
      have HS2 := Lib.hid (keep4 hb HS1.out)
      clear hb
      go_simp
      refine hK3x34.out _ _ (by exact HS2.out) (fun hHeld3x34 => ?_)
      clear hK3x34 K3x34
      (try simp only [Act.put, List.setIfInBounds_toArray, List.set_cons_zero, List.set_cons_succ])
      refine wpAnyH_take (i := 35) (oi := { dst := some 80, op := _, type := _, pos := _, after := _, guard := _ }) (v := ?v3x35) rfl (by kernel_rfl) (by kernel_rfl) (by kernel_rfl) (fun _ _ _ h => h) (Or.inl ⟨by kernel_rfl, ?y3x35⟩) (by assumption) ?r3x35
      case y3x35 =>
        intro wS hSw
        (try dsimp only at hSw)
        first | (go_simp; done) | (go_simp; with_reducible rfl)
      (try simp only [Act.put, List.setIfInBounds_toArray, List.set_cons_zero, List.set_cons_succ])
      refine wpAnyH_take (i := 36) (oi := { dst := some 81, op := _, type := _, pos := _, after := _, guard := _ }) (v := ?v3x36) rfl (by kernel_rfl) (by kernel_rfl) (by kernel_rfl) (fun _ _ _ h => h) (Or.inl ⟨by kernel_rfl, ?y3x36⟩) (by assumption) ?r3x36
      case y3x36 =>
        intro wS hSw
        (try dsimp only at hSw)
        first | (go_simp; done) | (go_simp; with_reducible rfl)
      (try simp only [Act.put, List.setIfInBounds_toArray, List.set_cons_zero, List.set_cons_succ])
      refine wpAnyH_take (i := 37) (oi := { dst := some 82, op := _, type := _, pos := _, after := _, guard := _ }) (v := ?v3x37) rfl (by kernel_rfl) (by kernel_rfl) (by kernel_rfl) (fun _ _ _ h => h) (Or.inl ⟨by kernel_rfl, ?y3x37⟩) (by assumption) ?r3x37
      case y3x37 =>
        intro wS hSw
        (try dsimp only at hSw)
        first | (go_simp; done) | (go_simp; with_reducible rfl)
      (try simp only [Act.put, List.setIfInBounds_toArray, List.set_cons_zero, List.set_cons_succ])
      refine wpAnyH_take (i := 38) (oi := { dst := some 83, op := _, type := _, pos := _, after := _, guard := _ }) (v := ?v3x38) rfl (by kernel_rfl) (by kernel_rfl) (by kernel_rfl) (fun _ _ _ h => h) (Or.inl ⟨by kernel_rfl, ?y3x38⟩) (by assumption) ?r3x38
      case y3x38 =>
        intro wS hSw
        (try dsimp only at hSw)
        first | (go_simp; done) | (go_simp; with_reducible rfl)
      (try simp only [Act.put, List.setIfInBounds_toArray, List.set_cons_zero, List.set_cons_succ])
      refine wpAnyH_take (i := 39) (oi := { dst := some 84, op := _, type := _, pos := _, after := _, guard := _ }) (v := ?v3x39) rfl (by kernel_rfl) (by kernel_rfl) (by kernel_rfl) (fun _ _ _ h => h) (Or.inl ⟨by kernel_rfl, ?y3x39⟩) (by assumption) ?r3x39
      case y3x39 =>
        intro wS hSw
        (try dsimp only at hSw)
        first | (go_simp; done) | (go_simp; with_reducible rfl)
      (try simp only [Act.put, List.setIfInBounds_toArray, List.set_cons_zero, List.set_cons_succ])
      refine wpAnyH_take (i := 40) (oi := { dst := some 85, op := _, type := _, pos := _, after := _, guard := _ }) (v := ?v3x40) rfl (by kernel_rfl) (by kernel_rfl) (by kernel_rfl) (fun _ _ _ h => h) (Or.inl ⟨by kernel_rfl, ?y3x40⟩) (by assumption) ?r3x40
      case y3x40 =>
        intro wS hSw
        (try dsimp only at hSw)
        first | (go_simp; done) | (go_simp; with_reducible rfl)
      (try simp only [Act.put, List.setIfInBounds_toArray, List.set_cons_zero, List.set_cons_succ])
      refine wpAnyH_take (i := 41) (oi := { dst := some 86, op := _, type := _, pos := _, after := _, guard := _ }) (v := ?v3x41) rfl (by kernel_rfl) (by kernel_rfl) (by kernel_rfl) (fun _ _ _ h => h) (Or.inl ⟨by kernel_rfl, ?y3x41⟩) (by assumption) ?r3x41
      case y3x41 =>
        intro wS hSw
        (try dsimp only at hSw)
        first | (go_simp; done) | (go_simp; with_reducible rfl)
      (try simp only [Act.put, List.setIfInBounds_toArray, List.set_cons_zero, List.set_cons_succ])
      refine wpAnyH_take (i := 42) (oi := { dst := some 87, op := _, type := _, pos := _, after := _, guard := _ }) (v := ?v3x42) rfl (by kernel_rfl) (by kernel_rfl) (by kernel_rfl) (fun _ _ _ h => h) (Or.inl ⟨by kernel_rfl, ?y3x42⟩) (by assumption) ?r3x42
      case y3x42 =>
        intro wS hSw
        (try dsimp only at hSw)
        first | (go_simp; done) | (go_simp; with_reducible rfl)
      (try simp only [Act.put, List.setIfInBounds_toArray, List.set_cons_zero, List.set_cons_succ])
      refine wpAnyH_take (i := 43) (oi := { dst := some 88, op := _, type := _, pos := _, after := _, guard := _ }) (v := ?v3x43) rfl (by kernel_rfl) (by kernel_rfl) (by kernel_rfl) (fun _ _ _ h => h) (Or.inl ⟨by kernel_rfl, ?y3x43⟩) (by assumption) ?r3x43
      case y3x43 =>
        intro wS hSw
        (try dsimp only at hSw)
        first | (go_simp; done) | (go_simp; with_reducible rfl)
      (try simp only [Act.put, List.setIfInBounds_toArray, List.set_cons_zero, List.set_cons_succ])
      refine wpAnyH_ready (rs := [44]) (by kernel_rfl) (by simp) ?_
      refine AllReadyH.cons (o := { dst := some 89, op := _, type := _, pos := _, after := _, guard := _ }) rfl (fun K3x44 hK3x44 => ?_) AllReadyH.nil
      go_simp
      refine (and_any _ _ _ _ _).mono ?_
      rintro e x3 ⟨rfl, hb⟩
      rw [HA.out]
      simp only [spanV]
      have HS3 := Lib.hid (keep4 hb HS2.out)
      clear hb
      go_simp
      refine hK3x44.out _ _ (by exact HS3.out) (fun hHeld3x44 => ?_)
      clear hK3x44 K3x44
      (try simp only [Act.put, List.setIfInBounds_toArray, List.set_cons_zero, List.set_cons_succ])
      refine wpAnyH_ready (rs := [45]) (by kernel_rfl) (by simp) ?_
      refine AllReadyH.cons (o := { dst := some 90, op := _, type := _, pos := _, after := _, guard := _ }) rfl (fun K3x45 hK3x45 => ?_) AllReadyH.nil
      go_simp
      refine (empty_any _ _ _).mono ?_
      rintro e x4 ⟨rfl, hb⟩
      rw [show emptyB 0 0 = true from rfl]
      have HS4 := Lib.hid (keep4 hb HS3.out)
      clear hb
      go_simp
      refine hK3x45.out _ _ (by exact HS4.out) (fun hHeld3x45 => ?_)
      clear hK3x45 K3x45
      (try simp only [Act.put, List.setIfInBounds_toArray, List.set_cons_zero, List.set_cons_succ])
      refine wpAnyH_take (i := 46) (oi := { dst := some 91, op := _, type := _, pos := _, after := _, guard := _ }) (v := ?v3x46) rfl (by kernel_rfl) (by kernel_rfl) (by kernel_rfl) (fun _ _ _ h => h) (Or.inl ⟨by kernel_rfl, ?y3x46⟩) (by assumption) ?r3x46
      case y3x46 =>
        intro wS hSw
        (try dsimp only at hSw)
        first | (go_simp; done) | (go_simp; with_reducible rfl)
      (try simp only [Act.put, List.setIfInBounds_toArray, List.set_cons_zero, List.set_cons_succ])
      refine wpAnyH_take (i := 47) (oi := { dst := some 92, op := _, type := _, pos := _, after := _, guard := _ }) (v := ?v3x47) rfl (by kernel_rfl) (by kernel_rfl) (by kernel_rfl) (fun _ _ _ h => h) (Or.inl ⟨by kernel_rfl, ?y3x47⟩) (by assumption) ?r3x47
      case y3x47 =>
        intro wS hSw
        (try dsimp only at hSw)
        first | (go_simp; done) | (go_simp; with_reducible rfl)
      (try simp only [Act.put, List.setIfInBounds_toArray, List.set_cons_zero, List.set_cons_succ])
      refine wpAnyH_take (i := 48) (oi := { dst := some 93, op := _, type := _, pos := _, after := _, guard := _ }) (v := ?v3x48) rfl (by kernel_rfl) (by kernel_rfl) (by kernel_rfl) (fun _ _ _ h => h) (Or.inl ⟨by kernel_rfl, ?y3x48⟩) (by assumption) ?r3x48
      case y3x48 =>
        intro wS hSw
        (try dsimp only at hSw)
        first | (go_simp; done) | (go_simp; with_reducible rfl)
      (try simp only [Act.put, List.setIfInBounds_toArray, List.set_cons_zero, List.set_cons_succ])
      refine wpAnyH_done (by kernel_rfl) ?_ _
      (try dsimp only [Act.put])
      (try simp only [Act.put, List.setIfInBounds_toArray, List.set_cons_zero, List.set_cons_succ])
      have sB := Lib.hid HS4.out.2.2.2.2
      have s0 := HS4.out.1
      have s1 := HS4.out.2.1
      by_cases k1 : a3 < 1
      · go_wp2_with fail
        refine (wakes_any _).mono ?_
        rintro e y9 ⟨rfl, hb⟩
        have HBz := Lib.hid (below_step sB.out hb)
        clear hb
        go_wp2_with fail
        go_ret
        exact ⟨rfl, HBz.out⟩
      · by_cases k2 : 1099511627776 / a2 < a3
        · go_wp2_with fail
          refine (wakes_any _).mono ?_
          rintro e y9 ⟨rfl, hb⟩
          have HBz := Lib.hid (below_step sB.out hb)
          clear hb
          go_wp2_with fail
          go_ret
          exact ⟨rfl, HBz.out⟩
        · obtain ⟨N, hN⟩ : ∃ N, a2 * a3 = N := ⟨_, rfl⟩
          have N2 : N ≤ 1099511627776 := by rw [← hN]; exact mul_le_of_le_div n1 (by omega)
          have N1 : 1 ≤ N := by
            have h := Int.mul_le_mul (show (1 : Int) ≤ a2 from n1) (show (1 : Int) ≤ a3 by omega) (by omega) (by omega)
            rw [hN] at h; omega
          obtain ⟨F, hF⟩ : ∃ F, floorS a0 N = F := ⟨_, rfl⟩
          obtain ⟨r1, r2⟩ := floorS_bd (t := a0) N1
          obtain ⟨r3, r4⟩ := bucket_in (t := a0) (n := a2) (k := a3) n1 (by omega)
          rw [hN] at r3 r4
          rw [hF] at r1 r2 r3 r4
          rw [Q.out.2] at r3 r4
          have hwN : widthB N = true := (width_iff N).2 ⟨N1, N2⟩
          have mF : F % a2 = 0 := by rw [← hF, ← hN]; exact emod_of_mul floor_mod
          have mG : (F + N) % a2 = 0 := by rw [Int.add_emod, mF, ← hN, Int.mul_emod_right]; simp
          have E3 := Lib.hid (show bucketR a0 N = ((F, F + N), 0) by rw [bucketR, if_pos (errS_in hwN (by omega) (by omega)), hF])
          have E4 := Lib.hid (show wholeS floorS ceilS F (F + N) a2 = ((F, F + N), 0) by rw [wholeS, if_pos (errS_in2 HW.out (by omega) (by omega) (by omega) (by omega)), if_neg (by omega), floor_of mF, ceil_of mG, goodS, if_neg (by omega)])
          have E5 := Lib.hid (show wholeS ceilS floorS F (F + N) a2 = ((F, F + N), 0) by rw [wholeS, if_pos (errS_in2 HW.out (by omega) (by omega) (by omega) (by omega)), if_neg (by omega), floor_of mG, ceil_of mF, goodS, if_neg (by omega)])
          have E6 := Lib.hid (show andS f (f + a2) F (F + N) = (f, f + a2) from and_in r3 r4 (by omega))
          clear hF mF mG hwN r3 r4
          go_wp2_with fail
          refine (Bucket_any _ _ _).mono ?_
          rintro e y1 ⟨rfl, hb⟩
          rw [E3.out]
          simp only [tupS]
          replace s0 := cell_below s0 hb
          replace s1 := cell_below s1 hb
          have sB1 := Lib.hid (below_step sB.out hb)
          clear hb
          go_wp2_with fail
          refine (Out_any _ _ _ _).mono ?_
          rintro e y2 ⟨rfl, hb⟩
          rw [E4.out]
          simp only [tupS]
          obtain ⟨c0, c1, -, -⟩ := res_cells (g := y1.heap.size) _ _ _ rfl hb
          replace s0 := cell_below (cell_alloc s0 _) hb
          replace s1 := cell_below (cell_alloc s1 _) hb
          have sB2 := Lib.hid (below_step (below_step sB1.out (alloc1 _ _)) hb)
          clear hb
          have c0' := cell_alloc c0
          have c1' := cell_alloc c1
          go_wp2_with fail
          refine (In_any _ _ _ _).mono ?_
          rintro e y3 ⟨rfl, hb⟩
          rw [E5.out]
          simp only [tupS]
          obtain ⟨o0, o1, -, -⟩ := res_cells (g := y2.heap.size) _ _ _ rfl hb
          replace c0 := cell_below (cell_alloc c0 _) hb
          replace c1 := cell_below (cell_alloc c1 _) hb
          replace s0 := cell_below (cell_alloc s0 _) hb
          replace s1 := cell_below (cell_alloc s1 _) hb
          have sB3 := Lib.hid (below_step (below_step sB2.out (alloc1 _ _)) hb)
          clear hb c0' c1'
          go_wp2_with fail
          obtain ⟨V, hV⟩ : ∃ V, V = y3.alloc (.cells #[.int .i64 F, .int .i64 (F + N)] 23) := ⟨_, rfl⟩
          have i0 : V.cell? ⟨y3.heap.size, 0, none⟩ = some (.int .i64 F) := by rw [hV]; simp [go_sem]
          have i1 : V.cell? ⟨y3.heap.size, 1, none⟩ = some (.int .i64 (F + N)) := by rw [hV]; simp [go_sem]
          have s0 := cell_alloc s0 (.cells #[.int .i64 F, .int .i64 (F + N)] 23)
          have s1 := cell_alloc s1 (.cells #[.int .i64 F, .int .i64 (F + N)] 23)
          have c0 := cell_alloc c0 (.cells #[.int .i64 F, .int .i64 (F + N)] 23)
          have c1 := cell_alloc c1 (.cells #[.int .i64 F, .int .i64 (F + N)] 23)
          have o0 := cell_alloc o0 (.cells #[.int .i64 F, .int .i64 (F + N)] 23)
          have o1 := cell_alloc o1 (.cells #[.int .i64 F, .int .i64 (F + N)] 23)
          rw [← hV] at s0 s1 c0 c1 o0 o1 ⊢
          have sB4 := Lib.hid (show Below w.heap.size w V by rw [hV]; exact below_step sB3.out (alloc1 _ _))
          have HK0 := Lib.hid (show _ from And.intro s0 (And.intro s1 (And.intro c0 (And.intro c1 (And.intro o0 (And.intro o1 (And.intro i0 (And.intro i1 (sB4.out.drew)))))))))
          clear hV
          refine wp_region_held_drew (S := (fun W' => W'.cell? ⟨w1.heap.size, 0, none⟩ = some (.int .i64 f) ∧ W'.cell? ⟨w1.heap.size, 1, none⟩ = some (.int .i64 (f + a2)) ∧ W'.cell? ⟨y1.heap.size, 0, none⟩ = some (.int .i64 F) ∧ W'.cell? ⟨y1.heap.size, 1, none⟩ = some (.int .i64 (F + N)) ∧ W'.cell? ⟨y2.heap.size, 0, none⟩ = some (.int .i64 F) ∧ W'.cell? ⟨y2.heap.size, 1, none⟩ = some (.int .i64 (F + N)) ∧ W'.cell? ⟨y3.heap.size, 0, none⟩ = some (.int .i64 F) ∧ W'.cell? ⟨y3.heap.size, 1, none⟩ = some (.int .i64 (F + N)) ∧ Below w.heap.size w W')) (by kernel_rfl) (by exact HK0.out) (fun hHeld4 => ?_)
          refine wpAnyH_take (i := 0) (oi := { dst := some 123, op := _, type := _, pos := _, after := _, guard := _ }) (v := ?v4x0) rfl (by kernel_rfl) (by kernel_rfl) (by kernel_rfl) (fun _ _ _ h => h) (Or.inl ⟨by kernel_rfl, ?y4x0⟩) (by assumption) ?r4x0
          case y4x0 =>
            intro wS hSw
            (try dsimp only at hSw)
            first | (go_simp; done) | (go_simp; with_reducible rfl)
          (try simp only [Act.put, List.setIfInBounds_toArray, List.set_cons_zero, List.set_cons_succ])
          refine wpAnyH_take (i := 1) (oi := { dst := some 124, op := _, type := _, pos := _, after := _, guard := _ }) (v := ?v4x1) rfl (by kernel_rfl) (by kernel_rfl) (by kernel_rfl) (fun _ _ _ h => h) (Or.inl ⟨by kernel_rfl, ?y4x1⟩) (by assumption) ?r4x1
          case y4x1 =>
            intro wS hSw
            (try dsimp only at hSw)
            first | (go_simp; done) | (go_simp; with_reducible rfl)
          (try simp only [Act.put, List.setIfInBounds_toArray, List.set_cons_zero, List.set_cons_succ])
          refine wpAnyH_take (i := 2) (oi := { dst := some 125, op := _, type := _, pos := _, after := _, guard := _ }) (v := ?v4x2) rfl (by kernel_rfl) (by kernel_rfl) (by kernel_rfl) (fun _ _ _ h => h) (Or.inl ⟨by kernel_rfl, ?y4x2⟩) (by assumption) ?r4x2
          case y4x2 =>
            intro wS hSw
            (try dsimp only at hSw)
            first | (go_simp; done) | (go_simp; with_reducible rfl)
          (try simp only [Act.put, List.setIfInBounds_toArray, List.set_cons_zero, List.set_cons_succ])
          refine wpAnyH_take (i := 3) (oi := { dst := some 126, op := _, type := _, pos := _, after := _, guard := _ }) (v := ?v4x3) rfl (by kernel_rfl) (by kernel_rfl) (by kernel_rfl) (fun _ _ _ h => h) (Or.inl ⟨by kernel_rfl, ?y4x3⟩) (by assumption) ?r4x3
          case y4x3 =>
            intro wS hSw
            (try dsimp only at hSw)
            first | (go_simp; done) | (go_simp; with_reducible rfl)
          (try simp only [Act.put, List.setIfInBounds_toArray, List.set_cons_zero, List.set_cons_succ])
          refine wpAnyH_take (i := 4) (oi := { dst := some 127, op := _, type := _, pos := _, after := _, guard := _ }) (v := ?v4x4) rfl (by kernel_rfl) (by kernel_rfl) (by kernel_rfl) (fun _ _ _ h => h) (Or.inl ⟨by kernel_rfl, ?y4x4⟩) (by assumption) ?r4x4
          case y4x4 =>
            intro wS hSw
            (try dsimp only at hSw)
            first | (go_simp; done) | (go_simp; with_reducible rfl)
          (try simp only [Act.put, List.setIfInBounds_toArray, List.set_cons_zero, List.set_cons_succ])
          refine wpAnyH_take (i := 5) (oi := { dst := some 128, op := _, type := _, pos := _, after := _, guard := _ }) (v := ?v4x5) rfl (by kernel_rfl) (by kernel_rfl) (by kernel_rfl) (fun _ _ _ h => h) (Or.inl ⟨by kernel_rfl, ?y4x5⟩) (by assumption) ?r4x5
          case y4x5 =>
            intro wS hSw
            (try dsimp only at hSw)
            first | (go_simp; done) | (go_simp; with_reducible rfl)
          (try simp only [Act.put, List.setIfInBounds_toArray, List.set_cons_zero, List.set_cons_succ])
          refine wpAnyH_take (i := 6) (oi := { dst := some 129, op := _, type := _, pos := _, after := _, guard := _ }) (v := ?v4x6) rfl (by kernel_rfl) (by kernel_rfl) (by kernel_rfl) (fun _ _ _ h => h) (Or.inl ⟨by kernel_rfl, ?y4x6⟩) (by assumption) ?r4x6
          case y4x6 =>
            intro wS hSw
            (try dsimp only at hSw)
            first | (go_simp; done) | (go_simp; with_reducible rfl)
          (try simp only [Act.put, List.setIfInBounds_toArray, List.set_cons_zero, List.set_cons_succ])
          refine wpAnyH_take (i := 7) (oi := { dst := some 130, op := _, type := _, pos := _, after := _, guard := _ }) (v := ?v4x7) rfl (by kernel_rfl) (by kernel_rfl) (by kernel_rfl) (fun _ _ _ h => h) (Or.inl ⟨by kernel_rfl, ?y4x7⟩) (by assumption) ?r4x7
          case y4x7 =>
            intro wS hSw
            (try dsimp only at hSw)
            first | (go_simp; done) | (go_simp; with_reducible rfl)
          (try simp only [Act.put, List.setIfInBounds_toArray, List.set_cons_zero, List.set_cons_succ])
          refine wpAnyH_take (i := 8) (oi := { dst := some 131, op := _, type := _, pos := _, after := _, guard := _ }) (v := ?v4x8) rfl (by kernel_rfl) (by kernel_rfl) (by kernel_rfl) (fun _ _ _ h => h) (Or.inl ⟨by kernel_rfl, ?y4x8⟩) (by assumption) ?r4x8
          case y4x8 =>
            intro wS hSw
            (try dsimp only at hSw)
            first | (go_simp; done) | (go_simp; with_reducible rfl)
          (try simp only [Act.put, List.setIfInBounds_toArray, List.set_cons_zero, List.set_cons_succ])
          refine wpAnyH_take (i := 9) (oi := { dst := some 132, op := _, type := _, pos := _, after := _, guard := _ }) (v := ?v4x9) rfl (by kernel_rfl) (by kernel_rfl) (by kernel_rfl) (fun _ _ _ h => h) (Or.inl ⟨by kernel_rfl, ?y4x9⟩) (by assumption) ?r4x9
          case y4x9 =>
            intro wS hSw
            (try dsimp only at hSw)
            first | (go_simp; done) | (go_simp; with_reducible rfl)
          (try simp only [Act.put, List.setIfInBounds_toArray, List.set_cons_zero, List.set_cons_succ])
          refine wpAnyH_take (i := 10) (oi := { dst := some 133, op := _, type := _, pos := _, after := _, guard := _ }) (v := ?v4x10) rfl (by kernel_rfl) (by kernel_rfl) (by kernel_rfl) (fun _ _ _ h => h) (Or.inl ⟨by kernel_rfl, ?y4x10⟩) (by assumption) ?r4x10
          case y4x10 =>
            intro wS hSw
            (try dsimp only at hSw)
            first | (go_simp; done) | (go_simp; with_reducible rfl)
          (try simp only [Act.put, List.setIfInBounds_toArray, List.set_cons_zero, List.set_cons_succ])
          refine wpAnyH_take (i := 11) (oi := { dst := some 134, op := _, type := _, pos := _, after := _, guard := _ }) (v := ?v4x11) rfl (by kernel_rfl) (by kernel_rfl) (by kernel_rfl) (fun _ _ _ h => h) (Or.inl ⟨by kernel_rfl, ?y4x11⟩) (by assumption) ?r4x11
          case y4x11 =>
            intro wS hSw
            (try dsimp only at hSw)
            first | (go_simp; done) | (go_simp; with_reducible rfl)
          (try simp only [Act.put, List.setIfInBounds_toArray, List.set_cons_zero, List.set_cons_succ])
          refine wpAnyH_take (i := 12) (oi := { dst := some 135, op := _, type := _, pos := _, after := _, guard := _ }) (v := ?v4x12) rfl (by kernel_rfl) (by kernel_rfl) (by kernel_rfl) (fun _ _ _ h => h) (Or.inl ⟨by kernel_rfl, ?y4x12⟩) (by assumption) ?r4x12
          case y4x12 =>
            intro wS hSw
            (try dsimp only at hSw)
            first | (go_simp; done) | (go_simp; with_reducible rfl)
          (try simp only [Act.put, List.setIfInBounds_toArray, List.set_cons_zero, List.set_cons_succ])
          refine wpAnyH_take (i := 13) (oi := { dst := some 136, op := _, type := _, pos := _, after := _, guard := _ }) (v := ?v4x13) rfl (by kernel_rfl) (by kernel_rfl) (by kernel_rfl) (fun _ _ _ h => h) (Or.inl ⟨by kernel_rfl, ?y4x13⟩) (by assumption) ?r4x13
          case y4x13 =>
            intro wS hSw
            (try dsimp only at hSw)
            first | (go_simp; done) | (go_simp; with_reducible rfl)
          (try simp only [Act.put, List.setIfInBounds_toArray, List.set_cons_zero, List.set_cons_succ])
          refine wpAnyH_take (i := 14) (oi := { dst := some 137, op := _, type := _, pos := _, after := _, guard := _ }) (v := ?v4x14) rfl (by kernel_rfl) (by kernel_rfl) (by kernel_rfl) (fun _ _ _ h => h) (Or.inl ⟨by kernel_rfl, ?y4x14⟩) (by assumption) ?r4x14
          case y4x14 =>
            intro wS hSw
            (try dsimp only at hSw)
            first | (go_simp; done) | (go_simp; with_reducible rfl)
          (try simp only [Act.put, List.setIfInBounds_toArray, List.set_cons_zero, List.set_cons_succ])
          refine wpAnyH_take (i := 15) (oi := { dst := some 138, op := _, type := _, pos := _, after := _, guard := _ }) (v := ?v4x15) rfl (by kernel_rfl) (by kernel_rfl) (by kernel_rfl) (fun _ _ _ h => h) (Or.inl ⟨by kernel_rfl, ?y4x15⟩) (by assumption) ?r4x15
          case y4x15 =>
            intro wS hSw
            (try dsimp only at hSw)
            first | (go_simp; done) | (go_simp; with_reducible rfl)
          (try simp only [Act.put, List.setIfInBounds_toArray, List.set_cons_zero, List.set_cons_succ])
          refine wpAnyH_take (i := 16) (oi := { dst := some 139, op := _, type := _, pos := _, after := _, guard := _ }) (v := ?v4x16) rfl (by kernel_rfl) (by kernel_rfl) (by kernel_rfl) (fun _ _ _ h => h) (Or.inl ⟨by kernel_rfl, ?y4x16⟩) (by assumption) ?r4x16
          case y4x16 =>
            intro wS hSw
            (try dsimp only at hSw)
            first | (go_simp; done) | (go_simp; with_reducible rfl)
          (try simp only [Act.put, List.setIfInBounds_toArray, List.set_cons_zero, List.set_cons_succ])
          refine wpAnyH_take (i := 17) (oi := { dst := some 140, op := _, type := _, pos := _, after := _, guard := _ }) (v := ?v4x17) rfl (by kernel_rfl) (by kernel_rfl) (by kernel_rfl) (fun _ _ _ h => h) (Or.inl ⟨by kernel_rfl, ?y4x17⟩) (by assumption) ?r4x17
          case y4x17 =>
            intro wS hSw
            (try dsimp only at hSw)
            first | (go_simp; done) | (go_simp; with_reducible rfl)
          (try simp only [Act.put, List.setIfInBounds_toArray, List.set_cons_zero, List.set_cons_succ])
          refine wpAnyH_take (i := 18) (oi := { dst := some 141, op := _, type := _, pos := _, after := _, guard := _ }) (v := ?v4x18) rfl (by kernel_rfl) (by kernel_rfl) (by kernel_rfl) (fun _ _ _ h => h) (Or.inl ⟨by kernel_rfl, ?y4x18⟩) (by assumption) ?r4x18
          case y4x18 =>
            intro wS hSw
            (try dsimp only at hSw)
            first | (go_simp; done) | (go_simp; with_reducible rfl)
          (try simp only [Act.put, List.setIfInBounds_toArray, List.set_cons_zero, List.set_cons_succ])
          refine wpAnyH_take (i := 19) (oi := { dst := some 142, op := _, type := _, pos := _, after := _, guard := _ }) (v := ?v4x19) rfl (by kernel_rfl) (by kernel_rfl) (by kernel_rfl) (fun _ _ _ h => h) (Or.inl ⟨by kernel_rfl, ?y4x19⟩) (by assumption) ?r4x19
          case y4x19 =>
            intro wS hSw
            (try dsimp only at hSw)
            first | (go_simp; done) | (go_simp; with_reducible rfl)
          (try simp only [Act.put, List.setIfInBounds_toArray, List.set_cons_zero, List.set_cons_succ])
          refine wpAnyH_take (i := 20) (oi := { dst := some 143, op := _, type := _, pos := _, after := _, guard := _ }) (v := ?v4x20) rfl (by kernel_rfl) (by kernel_rfl) (by kernel_rfl) (fun _ _ _ h => h) (Or.inl ⟨by kernel_rfl, ?y4x20⟩) (by assumption) ?r4x20
          case y4x20 =>
            intro wS hSw
            (try dsimp only at hSw)
            first | (go_simp; done) | (go_simp; with_reducible rfl)
          (try simp only [Act.put, List.setIfInBounds_toArray, List.set_cons_zero, List.set_cons_succ])
          refine wpAnyH_take (i := 21) (oi := { dst := some 144, op := _, type := _, pos := _, after := _, guard := _ }) (v := ?v4x21) rfl (by kernel_rfl) (by kernel_rfl) (by kernel_rfl) (fun _ _ _ h => h) (Or.inl ⟨by kernel_rfl, ?y4x21⟩) (by assumption) ?r4x21
          case y4x21 =>
            intro wS hSw
            (try dsimp only at hSw)
            first | (go_simp; done) | (go_simp; with_reducible rfl)
          (try simp only [Act.put, List.setIfInBounds_toArray, List.set_cons_zero, List.set_cons_succ])
          refine wpAnyH_take (i := 22) (oi := { dst := some 145, op := _, type := _, pos := _, after := _, guard := _ }) (v := ?v4x22) rfl (by kernel_rfl) (by kernel_rfl) (by kernel_rfl) (fun _ _ _ h => h) (Or.inl ⟨by kernel_rfl, ?y4x22⟩) (by assumption) ?r4x22
          case y4x22 =>
            intro wS hSw
            (try dsimp only at hSw)
            first | (go_simp; done) | (go_simp; with_reducible rfl)
          (try simp only [Act.put, List.setIfInBounds_toArray, List.set_cons_zero, List.set_cons_succ])
          refine wpAnyH_take (i := 24) (oi := { dst := some 147, op := _, type := _, pos := _, after := _, guard := _ }) (v := ?v4x23) rfl (by kernel_rfl) (by kernel_rfl) (by kernel_rfl) (fun _ _ _ h => h) (Or.inl ⟨by kernel_rfl, ?y4x23⟩) (by assumption) ?r4x23
          case y4x23 =>
            intro wS hSw
            (try dsimp only at hSw)
            first | (go_simp; done) | (go_simp; with_reducible rfl)
          (try simp only [Act.put, List.setIfInBounds_toArray, List.set_cons_zero, List.set_cons_succ])
          refine wpAnyH_ready (rs := [23]) (by kernel_rfl) (by simp) ?_
          refine AllReadyH.cons (o := { dst := some 146, op := _, type := _, pos := _, after := _, guard := _ }) rfl (fun K4x24 hK4x24 => ?_) AllReadyH.nil
          go_simp
          refine (and_any _ _ _ _ _).mono ?_
          rintro e z1 ⟨rfl, hb⟩
          rw [E6.out]
          simp only [spanV]
          have HZ1 := Lib.hid (keep8 (w := V.drew) hb HK0.out)
          clear hb
          go_simp
          refine hK4x24.out _ _ (by exact HZ1.out) (fun hHeld4x24 => ?_)
          clear hK4x24 K4x24
          (try simp only [Act.put, List.setIfInBounds_toArray, List.set_cons_zero, List.set_cons_succ])
          refine wpAnyH_take (i := 25) (oi := { dst := some 148, op := _, type := _, pos := _, after := _, guard := _ }) (v := ?v4x25) rfl (by kernel_rfl) (by kernel_rfl) (by kernel_rfl) (fun _ _ _ h => h) (Or.inl ⟨by kernel_rfl, ?y4x25⟩) (by assumption) ?r4x25
          case y4x25 =>
            intro wS hSw
            (try dsimp only at hSw)
            first | (go_simp; done) | (go_simp; with_reducible rfl)
          (try simp only [Act.put, List.setIfInBounds_toArray, List.set_cons_zero, List.set_cons_succ])
          refine wpAnyH_take (i := 26) (oi := { dst := some 149, op := _, type := _, pos := _, after := _, guard := _ }) (v := ?v4x26) rfl (by kernel_rfl) (by kernel_rfl) (by kernel_rfl) (fun _ _ _ h => h) (Or.inl ⟨by kernel_rfl, ?y4x26⟩) (by assumption) ?r4x26
          case y4x26 =>
            intro wS hSw
            (try dsimp only at hSw)
            first | (go_simp; done) | (go_simp; with_reducible rfl)
          (try simp only [Act.put, List.setIfInBounds_toArray, List.set_cons_zero, List.set_cons_succ])
          refine wpAnyH_take (i := 27) (oi := { dst := some 150, op := _, type := _, pos := _, after := _, guard := _ }) (v := ?v4x27) rfl (by kernel_rfl) (by kernel_rfl) (by kernel_rfl) (fun _ _ _ h => h) (Or.inl ⟨by kernel_rfl, ?y4x27⟩) (by assumption) ?r4x27
          case y4x27 =>
            intro wS hSw
            (try dsimp only at hSw)
            first | (go_simp; done) | (go_simp; with_reducible rfl)
          (try simp only [Act.put, List.setIfInBounds_toArray, List.set_cons_zero, List.set_cons_succ])
          refine wpAnyH_ready (rs := [28]) (by kernel_rfl) (by simp) ?_
          refine AllReadyH.cons (o := { dst := some 151, op := _, type := _, pos := _, after := _, guard := _ }) rfl (fun K4x28 hK4x28 => ?_) AllReadyH.nil
          go_simp
          refine (wakes_any _).mono ?_
          rintro e z2 ⟨rfl, hb⟩
          have HZ2 := Lib.hid (keep8 hb HZ1.out)
          clear hb
          go_simp
          refine hK4x28.out _ _ (by exact HZ2.out) (fun hHeld4x28 => ?_)
          clear hK4x28 K4x28
          (try simp only [Act.put, List.setIfInBounds_toArray, List.set_cons_zero, List.set_cons_succ])
          refine wpAnyH_take (i := 29) (oi := { dst := some 152, op := _, type := _, pos := _, after := _, guard := _ }) (v := ?v4x29) rfl (by kernel_rfl) (by kernel_rfl) (by kernel_rfl) (fun _ _ _ h => h) (Or.inl ⟨by kernel_rfl, ?y4x29⟩) (by assumption) ?r4x29
          case y4x29 =>
            intro wS hSw
            (try dsimp only at hSw)
            first | (go_simp; done) | (go_simp; with_reducible rfl)
          (try simp only [Act.put, List.setIfInBounds_toArray, List.set_cons_zero, List.set_cons_succ])
          refine wpAnyH_take (i := 30) (oi := { dst := some 8, op := _, type := _, pos := _, after := _, guard := _ }) (v := ?v4x30) rfl (by kernel_rfl) (by kernel_rfl) (by kernel_rfl) (fun _ _ _ h => h) (Or.inl ⟨by kernel_rfl, ?y4x30⟩) (by assumption) ?r4x30
          case y4x30 =>
            intro wS hSw
            (try dsimp only at hSw)
            first | (go_simp; done) | (go_simp; with_reducible rfl)
          (try simp only [Act.put, List.setIfInBounds_toArray, List.set_cons_zero, List.set_cons_succ])
          refine wpAnyH_done (by kernel_rfl) ?_ _
          (try dsimp only [Act.put])
          (try simp only [Act.put, List.setIfInBounds_toArray, List.set_cons_zero, List.set_cons_succ])
          go_wp2_with fail
          go_ret
          exact ⟨rfl, HZ2.out.2.2.2.2.2.2.2.2⟩
  · have hcase : timeB a0 = false ∨ (timeB a0 = true ∧ timeB a1 = false) ∨ (timeB a0 = true ∧ timeB a1 = true ∧ widthB a2 = false) := by
      revert hg
      cases timeB a0 <;> cases timeB a1 <;> cases widthB a2 <;> simp
    clear hg
    rcases hcase with ht | ⟨ht, hu⟩ | ⟨ht, hu, hw⟩
    · have HT := Lib.hid ht
      clear ht
      go_enter Try.func4, Try.ntmps4
      go_wp2_with fail
      refine (time_any _ _).mono ?_
      rintro e w' ⟨rfl, rfl⟩
      rw [HT.out]
      go_wp2_with fail
      refine (wakes_any _).mono ?_
      rintro e w' ⟨rfl, hb⟩
      have Hb := Lib.hid hb
      clear hb
      go_wp2_with fail
      go_ret
      exact ⟨rfl, Hb.out⟩
    · have HT := Lib.hid ht
      have HU := Lib.hid hu
      clear ht hu
      go_enter Try.func4, Try.ntmps4
      go_wp2_with fail
      refine (time_any _ _).mono ?_
      rintro e w' ⟨rfl, rfl⟩
      rw [HT.out]
      go_wp2_with fail
      refine (time_any _ _).mono ?_
      rintro e w' ⟨rfl, rfl⟩
      rw [HU.out]
      go_wp2_with fail
      refine (wakes_any _).mono ?_
      rintro e w' ⟨rfl, hb⟩
      have Hb := Lib.hid hb
      clear hb
      go_wp2_with fail
      go_ret
      exact ⟨rfl, Hb.out⟩
    · have HT := Lib.hid ht
      have HU := Lib.hid hu
      have HW := Lib.hid hw
      clear ht hu hw
      go_enter Try.func4, Try.ntmps4
      go_wp2_with fail
      refine (time_any _ _).mono ?_
      rintro e w' ⟨rfl, rfl⟩
      rw [HT.out]
      go_wp2_with fail
      refine (time_any _ _).mono ?_
      rintro e w' ⟨rfl, rfl⟩
      rw [HU.out]
      go_wp2_with fail
      refine (width_any _ _).mono ?_
      rintro e w' ⟨rfl, rfl⟩
      rw [HW.out]
      go_wp2_with fail
      refine (wakes_any _).mono ?_
      rintro e w' ⟨rfl, hb⟩
      have Hb := Lib.hid hb
      clear hb
      go_wp2_with fail
      go_ret
      exact ⟨rfl, Hb.out⟩

/-! ### THE ROW's STEP: WRITTEN OUT: LEAVE IT -/
set_option maxRecDepth 100000 in
theorem lifted (os : Os) (started : os.Started) (H : Type) (enc : TypeId × Value → H) :
    ReturnsInHanded {} Try.checked os 4 .any (Rows.spanBucketsSpec.pre6 enc Try.prog Try.f4 Rows.spanBucketsRow.domain false) (Rows.spanBucketsSpec.post enc Try.prog Try.f4 false true false false) := by
  refine returnsInHanded_of_change (C := Try.checked) own started (by kernel_rfl) Try.func4
    (ChangeSpec.witness6 (enc := enc) (C := Try.checked) false ⟨#[], #[.int .i64 0, .int .i64 0, .int .i64 0, .int .i64 0], []⟩ 8 (by kernel_rfl) (by kernel_rfl) (by kernel_rfl) (by kernel_rfl)) ?_
  intro W base args ds gs before hval0 hW hcnd _
  have hval : ∀ (j : Nat) t v, Try.f4.params[j]? = some t → args[j]? = some v → Value.okWide Try.prog W .any base t v := hval0
  have hW' := hW
  obtain ⟨p, q, hA0, hV, rfl, hfz, hnd⟩ := hW
  have hA : DataW.TrodAll enc Try.prog W 0 (fun _ => true) true Try.f4.params.toList args.toList ds p := hA0
  rw [Try.params4] at hA hval
  obtain ⟨v0, vs0, d0, ds0, p0, q0, hargs, rfl, rfl, h0, r0⟩ := trodAll_cons hA
  obtain ⟨v1, vs1, d1, ds1, p1, q1, rfl, rfl, rfl, h1, r1⟩ := trodAll_cons r0
  obtain ⟨v2, vs2, d2, ds2, p2, q2, rfl, rfl, rfl, h2, r2⟩ := trodAll_cons r1
  obtain ⟨v3, vs3, d3, ds3, p3, q3, rfl, rfl, rfl, h3, r3⟩ := trodAll_cons r2
  obtain ⟨rfl, rfl, rfl⟩ := trodAll_nil r3
  obtain rfl : args = #[v0, v1, v2, v3] := by cases args; simp_all
  obtain ⟨rfl, rfl⟩ := trodVars_none hV
  obtain ⟨a0, rfl, rfl, rfl, w0⟩ := open_int Try.underlying2 (hval 0 2 v0 rfl rfl) h0
  obtain ⟨a1, rfl, rfl, rfl, w1⟩ := open_int Try.underlying2 (hval 1 2 v1 rfl rfl) h1
  obtain ⟨a2, rfl, rfl, rfl, w2⟩ := open_int Try.underlying2 (hval 2 2 v2 rfl rfl) h2
  obtain ⟨a3, rfl, rfl, rfl, w3⟩ := open_int Try.underlying2 (hval 3 2 v3 rfl rfl) h3
  clear hA0 hval0
  refine (walk a0 a1 a2 a3 w0 w1 w2 w3 W).mono fun e W' ⟨he, hg⟩ => ?_
  subst he
  exact ⟨_, rfl, _, _, _, [], _, [], hW', trodAll_mk1 (shut_bool Try.underlying4 _), (trodAll_cons_mk (shut_int Try.underlying2 w0) (trodAll_cons_mk (shut_int Try.underlying2 w1) (trodAll_cons_mk (shut_int Try.underlying2 w2) (trodAll_cons_mk (shut_int Try.underlying2 w3) trodAll_mk0)))), rfl, hg.frame _, fun h => by cases h⟩

theorem over : Rows.spanBucketsRow.holds Try.pinned (OpenSpec.ofChange Rows.spanBucketsSpec) :=
  OpenClaim.holds_of_wide 4 Try.f4 rfl rfl rfl rfl rfl rfl rfl ⟨rfl, rfl, rfl, rfl, rfl⟩ rfl rfl rfl rfl rfl (by kernel_rfl) Try.func4 (by kernel_rfl)
    (of_decide_eq_true (by kernel_rfl)) (by unfold Func.isWrapper; first | (rw [if_pos (by decide +kernel)]; kernel_rfl) | (rw [if_neg (by decide +kernel)]; exact ⟨rfl, rfl⟩))
    (fun os started H enc _ => lifted os started H enc)

/-- The statement. -/
theorem proved : Rows.SpanBucketsSaid :=
  over
#print axioms proved
end Go.Proofs.Ytfpegfngogkmmab.spanBuckets
