/-
Out is the least span of whole buckets that has a span, In the greatest one that it has: the law answers true whatever the span, the width and the time. No condition.
-/
import Derived.Test.YtfpegfngogkmmabRows
import Derived.Test.YtfpegfngogkmmabS4
import Derived.Test.YtfpegfngogkmmabSM
import Derived.WalkKit
import Derived.ProofKit
import Derived.OpenShut
import Derived.ShutString
import Derived.ChangeOld
import Derived.Below
import Derived.Lib.SmallJoins
import Derived.Deep.RegionHeld3
namespace Go.Proofs.Ytfpegfngogkmmab.spanWhole
open Go.ChangeShapes Go.WideShapes Go.ChangeAt Go.RowKit Go.Joins
set_option linter.unusedVariables false

theorem own : ownKnob Try.prog.godebug = none := by kernel_rfl
theorem cells23 : Try.prog.cellsOf 23 = 2 := by kernel_rfl
theorem keep12 {w0 w w' : World} {p1 p2 p3 p4 p5 p6 p7 p8 p9 p10 p11 p12 : Addr} {x1 x2 x3 x4 x5 x6 x7 x8 x9 x10 x11 x12 : Value} (hb : Below w.heap.size w w')
    (h : w.cell? p1 = some x1 ∧ w.cell? p2 = some x2 ∧ w.cell? p3 = some x3 ∧ w.cell? p4 = some x4 ∧ w.cell? p5 = some x5 ∧ w.cell? p6 = some x6 ∧ w.cell? p7 = some x7 ∧ w.cell? p8 = some x8 ∧ w.cell? p9 = some x9 ∧ w.cell? p10 = some x10 ∧ w.cell? p11 = some x11 ∧ w.cell? p12 = some x12 ∧ Below w0.heap.size w0 w) :
    w'.cell? p1 = some x1 ∧ w'.cell? p2 = some x2 ∧ w'.cell? p3 = some x3 ∧ w'.cell? p4 = some x4 ∧ w'.cell? p5 = some x5 ∧ w'.cell? p6 = some x6 ∧ w'.cell? p7 = some x7 ∧ w'.cell? p8 = some x8 ∧ w'.cell? p9 = some x9 ∧ w'.cell? p10 = some x10 ∧ w'.cell? p11 = some x11 ∧ w'.cell? p12 = some x12 ∧ Below w0.heap.size w0 w' := by
  obtain ⟨h1, h2, h3, h4, h5, h6, h7, h8, h9, h10, h11, h12, h13⟩ := h
  exact ⟨cell_below h1 hb, cell_below h2 hb, cell_below h3 hb, cell_below h4 hb, cell_below h5 hb, cell_below h6 hb, cell_below h7 hb, cell_below h8 hb, cell_below h9 hb, cell_below h10 hb, cell_below h11 hb, cell_below h12 hb, below_step h13 hb⟩
theorem ceil_bd {t n : Int} (hn : 1 ≤ n) : t ≤ ceilS t n ∧ ceilS t n < t + n := by
  have := floorS_bd (t := t) hn
  unfold ceilS; split <;> omega
theorem ceil_mod {t n : Int} : ceilS t n % n = 0 := by
  unfold ceilS
  split
  · rw [Int.add_emod_right]; exact floor_mod
  · exact floor_mod
theorem new_cells (W : World) (x y : Value) : (W.alloc (.cells #[x, y] 23)).cell? ⟨W.heap.size, 0, none⟩ = some x ∧ (W.alloc (.cells #[x, y] 23)).cell? ⟨W.heap.size, 1, none⟩ = some y := by
  constructor <;> simp [go_sem]
/-- What the law asks of the numbers: s not empty, o and i its whole spans, f the time's bucket. -/
theorem whole_facts {a b n t f : Int} (hn : 1 ≤ n) (hab : a < b) (hf : f % n = 0) (h1 : f ≤ t) (h2 : t < f + n) :
    floorS a n < ceilS b n ∧
    hasB (floorS a n) (ceilS b n) t = !(emptyB (andS f (f + n) a b).1 (andS f (f + n) a b).2) ∧
    andS a b (floorS a n) (ceilS b n) = (a, b) ∧ andS a b a b = (a, b) ∧
    andS (goodS (ceilS a n) (floorS b n)).1 (goodS (ceilS a n) (floorS b n)).2 a b = goodS (ceilS a n) (floorS b n) ∧
    (hasB (goodS (ceilS a n) (floorS b n)).1 (goodS (ceilS a n) (floorS b n)).2 t = true → andS f (f + n) a b = (f, f + n)) ∧
    (hasB (goodS (ceilS a n) (floorS b n)).1 (goodS (ceilS a n) (floorS b n)).2 t = false → ¬ ((andS f (f + n) a b).1 = f ∧ (andS f (f + n) a b).2 = f + n)) := by
  obtain ⟨r1, r2⟩ := floorS_bd (t := a) hn
  obtain ⟨r3, r4⟩ := ceil_bd (t := b) hn
  obtain ⟨r5, r6⟩ := ceil_bd (t := a) hn
  obtain ⟨r7, r8⟩ := floorS_bd (t := b) hn
  have m1 := floor_mod (t := a) (n := n)
  have m2 := ceil_mod (t := b) (n := n)
  have m3 := ceil_mod (t := a) (n := n)
  have m4 := floor_mod (t := b) (n := n)
  have g1 : f < floorS a n → f + n ≤ floorS a n := floor_gap hn hf m1
  have g2 : floorS a n < f → floorS a n + n ≤ f := floor_gap hn m1 hf
  have g3 : f < ceilS b n → f + n ≤ ceilS b n := floor_gap hn hf m2
  have g4 : ceilS b n < f → ceilS b n + n ≤ f := floor_gap hn m2 hf
  have g5 : f < ceilS a n → f + n ≤ ceilS a n := floor_gap hn hf m3
  have g6 : ceilS a n < f → ceilS a n + n ≤ f := floor_gap hn m3 hf
  have g7 : f < floorS b n → f + n ≤ floorS b n := floor_gap hn hf m4
  have g8 : floorS b n < f → floorS b n + n ≤ f := floor_gap hn m4 hf
  generalize floorS a n = A at *
  generalize ceilS b n = B at *
  generalize ceilS a n = C at *
  generalize floorS b n = D at *
  have k1 := goodS_fst_snd C D
  have k2 := goodS_fst_snd (max f a) (min (f + n) b)
  refine ⟨by omega, ?_, and_in (by omega) (by omega) hab, and_in (by omega) (by omega) hab, ?_, ?_, ?_⟩
  · unfold andS emptyB hasB
    rw [Bool.eq_iff_iff]; simp; omega
  · rcases hP : goodS C D with ⟨P1, P2⟩
    rw [hP] at k1
    simp only at k1 ⊢
    unfold andS goodS
    split
    · rename_i h; rcases k1 with ⟨k1, k3, _⟩ | ⟨k1, k3, _⟩
      · omega
      · rw [k1, k3]
    · rcases k1 with ⟨k1, k3, _⟩ | ⟨k1, k3, _⟩
      · congr 1 <;> omega
      · omega
  · intro h
    simp [hasB] at h
    refine and_in ?_ ?_ (by omega) <;> omega
  · intro h hh
    simp [hasB] at h
    unfold andS at hh
    omega
set_option maxRecDepth 100000 in
set_option maxHeartbeats 16000000 in
theorem walk (a0 b0 : Int) (w0 : (Lit.int .i64 a0).wf = true) (u0 : (Lit.int .i64 b0).wf = true) (a1 : Int) (w1 : (Lit.int .i64 a1).wf = true) (a2 : Int) (w2 : (Lit.int .i64 a2).wf = true) (w : World) :
    Calls Try.prog 5 #[.agg #[.int .i64 a0, .int .i64 b0], .int .i64 a1, .int .i64 a2] w fun e w' => e = .returned (.bool true) ∧ Below w.heap.size w w' := by
  obtain ⟨l0, l1⟩ := bounds_i64 w0
  obtain ⟨m0, m1⟩ := bounds_i64 u0
  clear w0 u0 w1 w2
  by_cases hg : timeB a0 = true ∧ timeB b0 = true ∧ widthB a1 = true ∧ timeB a2 = true
  · obtain ⟨g1, g2, g3, g4⟩ := hg
    have G1 := Lib.hid g1
    have G2 := Lib.hid g2
    have G3 := Lib.hid g3
    have G4 := Lib.hid g4
    obtain ⟨t1, t2⟩ := (time_iff a0).1 g1
    obtain ⟨t3, t4⟩ := (time_iff b0).1 g2
    obtain ⟨n1, n2⟩ := (width_iff a1).1 g3
    obtain ⟨t5, t6⟩ := (time_iff a2).1 g4
    obtain ⟨r1, r2⟩ := floorS_bd (t := a2) n1
    have mf := floor_mod (t := a2) (n := a1)
    have E3 := Lib.hid (show bucketR a2 a1 = ((floorS a2 a1, floorS a2 a1 + a1), 0) by rw [bucketR, if_pos (errS_in g3 (by omega) (by omega))])
    generalize floorS a2 a1 = f at *
    by_cases hab : b0 ≤ a0
    · have E1 := Lib.hid (show wholeS floorS ceilS a0 b0 a1 = ((0, 0), 0) by rw [wholeS, if_pos (errS_in2 g3 (by omega) (by omega) (by omega) (by omega)), if_pos hab])
      have E2 := Lib.hid (show wholeS ceilS floorS a0 b0 a1 = ((0, 0), 0) by rw [wholeS, if_pos (errS_in2 g3 (by omega) (by omega) (by omega) (by omega)), if_pos hab])
      have E4 := Lib.hid (show wholeS floorS ceilS 0 0 a1 = ((0, 0), 0) by rw [wholeS, if_pos (errS_in2 g3 (by omega) (by omega) (by omega) (by omega)), if_pos (by omega)])
      have E5 := Lib.hid (show wholeS ceilS floorS 0 0 a1 = ((0, 0), 0) by rw [wholeS, if_pos (errS_in2 g3 (by omega) (by omega) (by omega) (by omega)), if_pos (by omega)])
      have HEO := Lib.hid (show emptyB 0 0 = true from rfl)
      have HES := Lib.hid (show emptyB a0 b0 = true by simp [emptyB]; omega)
      have HHO := Lib.hid (show hasB 0 0 a2 = false by simp [hasB] <;> omega)
      have HHI := Lib.hid (show hasB 0 0 a2 = false by simp [hasB] <;> omega)
      have HBS := Lib.hid (show andS f (f + a1) a0 b0 = (0, 0) by unfold andS goodS; rw [if_pos (by omega)])
      have HEC := Lib.hid (show emptyB 0 0 = true from rfl)
      have HIS := Lib.hid (show andS 0 0 a0 b0 = (0, 0) by unfold andS goodS; rw [if_pos (by omega)])
      have HSO := Lib.hid (show andS a0 b0 0 0 = (0, 0) by unfold andS goodS; rw [if_pos (by omega)])
      have HSS := Lib.hid (show andS a0 b0 a0 b0 = (0, 0) by unfold andS goodS; rw [if_pos (by omega)])
      clear g1 g2 g3 g4 mf
      go_enter Try.func5, Try.ntmps5
      go_wp2_with fail
      refine (time_any _ _).mono ?_
      rintro e w' ⟨rfl, rfl⟩
      rw [G1.out]
      go_wp2_with fail
      refine (time_any _ _).mono ?_
      rintro e w' ⟨rfl, rfl⟩
      rw [G2.out]
      go_wp2_with fail
      refine (width_any _ _).mono ?_
      rintro e w' ⟨rfl, rfl⟩
      rw [G3.out]
      go_wp2_with fail
      refine (time_any _ _).mono ?_
      rintro e w' ⟨rfl, rfl⟩
      rw [G4.out]
      have s0 := (new_cells w (.int .i64 a0) (.int .i64 b0)).1
      have s1 := (new_cells w (.int .i64 a0) (.int .i64 b0)).2
      have sB := alloc1 w (.cells #[.int .i64 a0, .int .i64 b0] 23)
      go_wp2_with fail
      refine (Out_any _ _ _ _).mono ?_
      rintro e y1 ⟨rfl, hb⟩
      rw [E1.out]
      simp only [tupS]
      replace s0 := cell_below s0 hb
      replace s1 := cell_below s1 hb
      replace sB := below_step sB hb
      clear hb
      have fo0 := (new_cells y1 (.int .i64 0) (.int .i64 0)).1
      have fo1 := (new_cells y1 (.int .i64 0) (.int .i64 0)).2
      replace s0 := cell_alloc s0 (.cells #[.int .i64 0, .int .i64 0] 23)
      replace s1 := cell_alloc s1 (.cells #[.int .i64 0, .int .i64 0] 23)
      replace sB := below_step sB (alloc1 y1 (.cells #[.int .i64 0, .int .i64 0] 23))
      go_wp2_with fail
      refine (In_any _ _ _ _).mono ?_
      rintro e y2 ⟨rfl, hb⟩
      rw [E2.out]
      simp only [tupS]
      replace s0 := cell_below s0 hb
      replace s1 := cell_below s1 hb
      replace fo0 := cell_below fo0 hb
      replace fo1 := cell_below fo1 hb
      replace sB := below_step sB hb
      clear hb
      have fi0 := (new_cells y2 (.int .i64 0) (.int .i64 0)).1
      have fi1 := (new_cells y2 (.int .i64 0) (.int .i64 0)).2
      replace s0 := cell_alloc s0 (.cells #[.int .i64 0, .int .i64 0] 23)
      replace s1 := cell_alloc s1 (.cells #[.int .i64 0, .int .i64 0] 23)
      replace fo0 := cell_alloc fo0 (.cells #[.int .i64 0, .int .i64 0] 23)
      replace fo1 := cell_alloc fo1 (.cells #[.int .i64 0, .int .i64 0] 23)
      replace sB := below_step sB (alloc1 y2 (.cells #[.int .i64 0, .int .i64 0] 23))
      go_wp2_with fail
      refine (Bucket_any _ _ _).mono ?_
      rintro e y3 ⟨rfl, hb⟩
      rw [E3.out]
      simp only [tupS]
      replace s0 := cell_below s0 hb
      replace s1 := cell_below s1 hb
      replace fo0 := cell_below fo0 hb
      replace fo1 := cell_below fo1 hb
      replace fi0 := cell_below fi0 hb
      replace fi1 := cell_below fi1 hb
      replace sB := below_step sB hb
      clear hb
      have fk0 := (new_cells y3 (.int .i64 f) (.int .i64 (f + a1))).1
      have fk1 := (new_cells y3 (.int .i64 f) (.int .i64 (f + a1))).2
      replace s0 := cell_alloc s0 (.cells #[.int .i64 f, .int .i64 (f + a1)] 23)
      replace s1 := cell_alloc s1 (.cells #[.int .i64 f, .int .i64 (f + a1)] 23)
      replace fo0 := cell_alloc fo0 (.cells #[.int .i64 f, .int .i64 (f + a1)] 23)
      replace fo1 := cell_alloc fo1 (.cells #[.int .i64 f, .int .i64 (f + a1)] 23)
      replace fi0 := cell_alloc fi0 (.cells #[.int .i64 f, .int .i64 (f + a1)] 23)
      replace fi1 := cell_alloc fi1 (.cells #[.int .i64 f, .int .i64 (f + a1)] 23)
      replace sB := below_step sB (alloc1 y3 (.cells #[.int .i64 f, .int .i64 (f + a1)] 23))
      go_wp2_with fail
      refine (Out_any _ _ _ _).mono ?_
      rintro e y4 ⟨rfl, hb⟩
      rw [E4.out]
      simp only [tupS]
      replace s0 := cell_below s0 hb
      replace s1 := cell_below s1 hb
      replace fo0 := cell_below fo0 hb
      replace fo1 := cell_below fo1 hb
      replace fi0 := cell_below fi0 hb
      replace fi1 := cell_below fi1 hb
      replace fk0 := cell_below fk0 hb
      replace fk1 := cell_below fk1 hb
      replace sB := below_step sB hb
      clear hb
      have fp0 := (new_cells y4 (.int .i64 0) (.int .i64 0)).1
      have fp1 := (new_cells y4 (.int .i64 0) (.int .i64 0)).2
      replace s0 := cell_alloc s0 (.cells #[.int .i64 0, .int .i64 0] 23)
      replace s1 := cell_alloc s1 (.cells #[.int .i64 0, .int .i64 0] 23)
      replace fo0 := cell_alloc fo0 (.cells #[.int .i64 0, .int .i64 0] 23)
      replace fo1 := cell_alloc fo1 (.cells #[.int .i64 0, .int .i64 0] 23)
      replace fi0 := cell_alloc fi0 (.cells #[.int .i64 0, .int .i64 0] 23)
      replace fi1 := cell_alloc fi1 (.cells #[.int .i64 0, .int .i64 0] 23)
      replace fk0 := cell_alloc fk0 (.cells #[.int .i64 0, .int .i64 0] 23)
      replace fk1 := cell_alloc fk1 (.cells #[.int .i64 0, .int .i64 0] 23)
      replace sB := below_step sB (alloc1 y4 (.cells #[.int .i64 0, .int .i64 0] 23))
      go_wp2_with fail
      refine (In_any _ _ _ _).mono ?_
      rintro e y5 ⟨rfl, hb⟩
      rw [E5.out]
      simp only [tupS]
      replace s0 := cell_below s0 hb
      replace s1 := cell_below s1 hb
      replace fo0 := cell_below fo0 hb
      replace fo1 := cell_below fo1 hb
      replace fi0 := cell_below fi0 hb
      replace fi1 := cell_below fi1 hb
      replace fk0 := cell_below fk0 hb
      replace fk1 := cell_below fk1 hb
      replace fp0 := cell_below fp0 hb
      replace fp1 := cell_below fp1 hb
      replace sB := below_step sB hb
      clear hb
      have fr0 := (new_cells y5 (.int .i64 0) (.int .i64 0)).1
      have fr1 := (new_cells y5 (.int .i64 0) (.int .i64 0)).2
      replace s0 := cell_alloc s0 (.cells #[.int .i64 0, .int .i64 0] 23)
      replace s1 := cell_alloc s1 (.cells #[.int .i64 0, .int .i64 0] 23)
      replace fo0 := cell_alloc fo0 (.cells #[.int .i64 0, .int .i64 0] 23)
      replace fo1 := cell_alloc fo1 (.cells #[.int .i64 0, .int .i64 0] 23)
      replace fi0 := cell_alloc fi0 (.cells #[.int .i64 0, .int .i64 0] 23)
      replace fi1 := cell_alloc fi1 (.cells #[.int .i64 0, .int .i64 0] 23)
      replace fk0 := cell_alloc fk0 (.cells #[.int .i64 0, .int .i64 0] 23)
      replace fk1 := cell_alloc fk1 (.cells #[.int .i64 0, .int .i64 0] 23)
      replace fp0 := cell_alloc fp0 (.cells #[.int .i64 0, .int .i64 0] 23)
      replace fp1 := cell_alloc fp1 (.cells #[.int .i64 0, .int .i64 0] 23)
      replace sB := below_step sB (alloc1 y5 (.cells #[.int .i64 0, .int .i64 0] 23))
      go_wp2_with fail
      obtain ⟨V, hV⟩ : ∃ V, V = y5.alloc (.cells #[.int .i64 0, .int .i64 0] 23) := ⟨_, rfl⟩
      rw [← hV] at s0 s1 fo0 fo1 fi0 fi1 fk0 fk1 fp0 fp1 fr0 fr1 sB ⊢
      have HK0 := And.intro s0 (And.intro s1 (And.intro fo0 (And.intro fo1 (And.intro fi0 (And.intro fi1 (And.intro fk0 (And.intro fk1 (And.intro fp0 (And.intro fp1 (And.intro fr0 (And.intro fr1 (sB))))))))))))
      have HK := Lib.hid (show V.drew.cell? _ = _ ∧ V.drew.cell? _ = _ ∧ V.drew.cell? _ = _ ∧ V.drew.cell? _ = _ ∧ V.drew.cell? _ = _ ∧ V.drew.cell? _ = _ ∧ V.drew.cell? _ = _ ∧ V.drew.cell? _ = _ ∧ V.drew.cell? _ = _ ∧ V.drew.cell? _ = _ ∧ V.drew.cell? _ = _ ∧ V.drew.cell? _ = _ ∧ Below w.heap.size w V.drew from ⟨HK0.1, HK0.2.1, HK0.2.2.1, HK0.2.2.2.1, HK0.2.2.2.2.1, HK0.2.2.2.2.2.1, HK0.2.2.2.2.2.2.1, HK0.2.2.2.2.2.2.2.1, HK0.2.2.2.2.2.2.2.2.1, HK0.2.2.2.2.2.2.2.2.2.1, HK0.2.2.2.2.2.2.2.2.2.2.1, HK0.2.2.2.2.2.2.2.2.2.2.2.1, HK0.2.2.2.2.2.2.2.2.2.2.2.2.drew⟩)
      clear hV HK0 sB s0 s1 fo0 fo1 fi0 fi1 fk0 fk1 fp0 fp1 fr0 fr1
      refine wp_region_held_drew (S := (fun W' => W'.cell? ⟨w.heap.size, 0, none⟩ = some (.int .i64 a0) ∧ W'.cell? ⟨w.heap.size, 1, none⟩ = some (.int .i64 b0) ∧ W'.cell? ⟨y1.heap.size, 0, none⟩ = some (.int .i64 0) ∧ W'.cell? ⟨y1.heap.size, 1, none⟩ = some (.int .i64 0) ∧ W'.cell? ⟨y2.heap.size, 0, none⟩ = some (.int .i64 0) ∧ W'.cell? ⟨y2.heap.size, 1, none⟩ = some (.int .i64 0) ∧ W'.cell? ⟨y3.heap.size, 0, none⟩ = some (.int .i64 f) ∧ W'.cell? ⟨y3.heap.size, 1, none⟩ = some (.int .i64 (f + a1)) ∧ W'.cell? ⟨y4.heap.size, 0, none⟩ = some (.int .i64 0) ∧ W'.cell? ⟨y4.heap.size, 1, none⟩ = some (.int .i64 0) ∧ W'.cell? ⟨y5.heap.size, 0, none⟩ = some (.int .i64 0) ∧ W'.cell? ⟨y5.heap.size, 1, none⟩ = some (.int .i64 0) ∧ Below w.heap.size w W')) (by kernel_rfl) (by exact HK.out) (fun hHeld1 => ?_)
      refine wpAnyH_take (i := 0) (oi := { dst := some 78, op := _, type := _, pos := _, after := _, guard := _ }) (v := ?v1x0) rfl (by kernel_rfl) (by kernel_rfl) (by kernel_rfl) (fun _ _ _ h => h) (Or.inl ⟨by kernel_rfl, ?y1x0⟩) (by assumption) ?r1x0
      case y1x0 =>
        intro wS hSw
        (try dsimp only at hSw)
        first | (go_simp; done) | (go_simp; with_reducible rfl)
      (try simp only [Act.put, List.setIfInBounds_toArray, List.set_cons_zero, List.set_cons_succ])
      refine wpAnyH_take (i := 1) (oi := { dst := some 79, op := _, type := _, pos := _, after := _, guard := _ }) (v := ?v1x1) rfl (by kernel_rfl) (by kernel_rfl) (by kernel_rfl) (fun _ _ _ h => h) (Or.inl ⟨by kernel_rfl, ?y1x1⟩) (by assumption) ?r1x1
      case y1x1 =>
        intro wS hSw
        (try dsimp only at hSw)
        first | (go_simp; done) | (go_simp; with_reducible rfl)
      (try simp only [Act.put, List.setIfInBounds_toArray, List.set_cons_zero, List.set_cons_succ])
      refine wpAnyH_take (i := 2) (oi := { dst := some 80, op := _, type := _, pos := _, after := _, guard := _ }) (v := ?v1x2) rfl (by kernel_rfl) (by kernel_rfl) (by kernel_rfl) (fun _ _ _ h => h) (Or.inl ⟨by kernel_rfl, ?y1x2⟩) (by assumption) ?r1x2
      case y1x2 =>
        intro wS hSw
        (try dsimp only at hSw)
        first | (go_simp; done) | (go_simp; with_reducible rfl)
      (try simp only [Act.put, List.setIfInBounds_toArray, List.set_cons_zero, List.set_cons_succ])
      refine wpAnyH_take (i := 3) (oi := { dst := some 81, op := _, type := _, pos := _, after := _, guard := _ }) (v := ?v1x3) rfl (by kernel_rfl) (by kernel_rfl) (by kernel_rfl) (fun _ _ _ h => h) (Or.inl ⟨by kernel_rfl, ?y1x3⟩) (by assumption) ?r1x3
      case y1x3 =>
        intro wS hSw
        (try dsimp only at hSw)
        first | (go_simp; done) | (go_simp; with_reducible rfl)
      (try simp only [Act.put, List.setIfInBounds_toArray, List.set_cons_zero, List.set_cons_succ])
      refine wpAnyH_take (i := 4) (oi := { dst := some 82, op := _, type := _, pos := _, after := _, guard := _ }) (v := ?v1x4) rfl (by kernel_rfl) (by kernel_rfl) (by kernel_rfl) (fun _ _ _ h => h) (Or.inl ⟨by kernel_rfl, ?y1x4⟩) (by assumption) ?r1x4
      case y1x4 =>
        intro wS hSw
        (try dsimp only at hSw)
        first | (go_simp; done) | (go_simp; with_reducible rfl)
      (try simp only [Act.put, List.setIfInBounds_toArray, List.set_cons_zero, List.set_cons_succ])
      refine wpAnyH_take (i := 5) (oi := { dst := some 83, op := _, type := _, pos := _, after := _, guard := _ }) (v := ?v1x5) rfl (by kernel_rfl) (by kernel_rfl) (by kernel_rfl) (fun _ _ _ h => h) (Or.inl ⟨by kernel_rfl, ?y1x5⟩) (by assumption) ?r1x5
      case y1x5 =>
        intro wS hSw
        (try dsimp only at hSw)
        first | (go_simp; done) | (go_simp; with_reducible rfl)
      (try simp only [Act.put, List.setIfInBounds_toArray, List.set_cons_zero, List.set_cons_succ])
      refine wpAnyH_take (i := 6) (oi := { dst := some 84, op := _, type := _, pos := _, after := _, guard := _ }) (v := ?v1x6) rfl (by kernel_rfl) (by kernel_rfl) (by kernel_rfl) (fun _ _ _ h => h) (Or.inl ⟨by kernel_rfl, ?y1x6⟩) (by assumption) ?r1x6
      case y1x6 =>
        intro wS hSw
        (try dsimp only at hSw)
        first | (go_simp; done) | (go_simp; with_reducible rfl)
      (try simp only [Act.put, List.setIfInBounds_toArray, List.set_cons_zero, List.set_cons_succ])
      refine wpAnyH_take (i := 7) (oi := { dst := some 85, op := _, type := _, pos := _, after := _, guard := _ }) (v := ?v1x7) rfl (by kernel_rfl) (by kernel_rfl) (by kernel_rfl) (fun _ _ _ h => h) (Or.inl ⟨by kernel_rfl, ?y1x7⟩) (by assumption) ?r1x7
      case y1x7 =>
        intro wS hSw
        (try dsimp only at hSw)
        first | (go_simp; done) | (go_simp; with_reducible rfl)
      (try simp only [Act.put, List.setIfInBounds_toArray, List.set_cons_zero, List.set_cons_succ])
      refine wpAnyH_take (i := 8) (oi := { dst := some 86, op := _, type := _, pos := _, after := _, guard := _ }) (v := ?v1x8) rfl (by kernel_rfl) (by kernel_rfl) (by kernel_rfl) (fun _ _ _ h => h) (Or.inl ⟨by kernel_rfl, ?y1x8⟩) (by assumption) ?r1x8
      case y1x8 =>
        intro wS hSw
        (try dsimp only at hSw)
        first | (go_simp; done) | (go_simp; with_reducible rfl)
      (try simp only [Act.put, List.setIfInBounds_toArray, List.set_cons_zero, List.set_cons_succ])
      refine wpAnyH_take (i := 9) (oi := { dst := some 87, op := _, type := _, pos := _, after := _, guard := _ }) (v := ?v1x9) rfl (by kernel_rfl) (by kernel_rfl) (by kernel_rfl) (fun _ _ _ h => h) (Or.inl ⟨by kernel_rfl, ?y1x9⟩) (by assumption) ?r1x9
      case y1x9 =>
        intro wS hSw
        (try dsimp only at hSw)
        first | (go_simp; done) | (go_simp; with_reducible rfl)
      (try simp only [Act.put, List.setIfInBounds_toArray, List.set_cons_zero, List.set_cons_succ])
      refine wpAnyH_take (i := 10) (oi := { dst := some 88, op := _, type := _, pos := _, after := _, guard := _ }) (v := ?v1x10) rfl (by kernel_rfl) (by kernel_rfl) (by kernel_rfl) (fun _ _ _ h => h) (Or.inl ⟨by kernel_rfl, ?y1x10⟩) (by assumption) ?r1x10
      case y1x10 =>
        intro wS hSw
        (try dsimp only at hSw)
        first | (go_simp; done) | (go_simp; with_reducible rfl)
      (try simp only [Act.put, List.setIfInBounds_toArray, List.set_cons_zero, List.set_cons_succ])
      refine wpAnyH_take (i := 11) (oi := { dst := some 89, op := _, type := _, pos := _, after := _, guard := _ }) (v := ?v1x11) rfl (by kernel_rfl) (by kernel_rfl) (by kernel_rfl) (fun _ _ _ h => h) (Or.inl ⟨by kernel_rfl, ?y1x11⟩) (by assumption) ?r1x11
      case y1x11 =>
        intro wS hSw
        (try dsimp only at hSw)
        first | (go_simp; done) | (go_simp; with_reducible rfl)
      (try simp only [Act.put, List.setIfInBounds_toArray, List.set_cons_zero, List.set_cons_succ])
      refine wpAnyH_take (i := 12) (oi := { dst := some 90, op := _, type := _, pos := _, after := _, guard := _ }) (v := ?v1x12) rfl (by kernel_rfl) (by kernel_rfl) (by kernel_rfl) (fun _ _ _ h => h) (Or.inl ⟨by kernel_rfl, ?y1x12⟩) (by assumption) ?r1x12
      case y1x12 =>
        intro wS hSw
        (try dsimp only at hSw)
        first | (go_simp; done) | (go_simp; with_reducible rfl)
      (try simp only [Act.put, List.setIfInBounds_toArray, List.set_cons_zero, List.set_cons_succ])
      refine wpAnyH_take (i := 13) (oi := { dst := some 91, op := _, type := _, pos := _, after := _, guard := _ }) (v := ?v1x13) rfl (by kernel_rfl) (by kernel_rfl) (by kernel_rfl) (fun _ _ _ h => h) (Or.inl ⟨by kernel_rfl, ?y1x13⟩) (by assumption) ?r1x13
      case y1x13 =>
        intro wS hSw
        (try dsimp only at hSw)
        first | (go_simp; done) | (go_simp; with_reducible rfl)
      (try simp only [Act.put, List.setIfInBounds_toArray, List.set_cons_zero, List.set_cons_succ])
      refine wpAnyH_take (i := 14) (oi := { dst := some 92, op := _, type := _, pos := _, after := _, guard := _ }) (v := ?v1x14) rfl (by kernel_rfl) (by kernel_rfl) (by kernel_rfl) (fun _ _ _ h => h) (Or.inl ⟨by kernel_rfl, ?y1x14⟩) (by assumption) ?r1x14
      case y1x14 =>
        intro wS hSw
        (try dsimp only at hSw)
        first | (go_simp; done) | (go_simp; with_reducible rfl)
      (try simp only [Act.put, List.setIfInBounds_toArray, List.set_cons_zero, List.set_cons_succ])
      refine wpAnyH_take (i := 15) (oi := { dst := some 93, op := _, type := _, pos := _, after := _, guard := _ }) (v := ?v1x15) rfl (by kernel_rfl) (by kernel_rfl) (by kernel_rfl) (fun _ _ _ h => h) (Or.inl ⟨by kernel_rfl, ?y1x15⟩) (by assumption) ?r1x15
      case y1x15 =>
        intro wS hSw
        (try dsimp only at hSw)
        first | (go_simp; done) | (go_simp; with_reducible rfl)
      (try simp only [Act.put, List.setIfInBounds_toArray, List.set_cons_zero, List.set_cons_succ])
      refine wpAnyH_take (i := 16) (oi := { dst := some 94, op := _, type := _, pos := _, after := _, guard := _ }) (v := ?v1x16) rfl (by kernel_rfl) (by kernel_rfl) (by kernel_rfl) (fun _ _ _ h => h) (Or.inl ⟨by kernel_rfl, ?y1x16⟩) (by assumption) ?r1x16
      case y1x16 =>
        intro wS hSw
        (try dsimp only at hSw)
        first | (go_simp; done) | (go_simp; with_reducible rfl)
      (try simp only [Act.put, List.setIfInBounds_toArray, List.set_cons_zero, List.set_cons_succ])
      refine wpAnyH_take (i := 17) (oi := { dst := some 95, op := _, type := _, pos := _, after := _, guard := _ }) (v := ?v1x17) rfl (by kernel_rfl) (by kernel_rfl) (by kernel_rfl) (fun _ _ _ h => h) (Or.inl ⟨by kernel_rfl, ?y1x17⟩) (by assumption) ?r1x17
      case y1x17 =>
        intro wS hSw
        (try dsimp only at hSw)
        first | (go_simp; done) | (go_simp; with_reducible rfl)
      (try simp only [Act.put, List.setIfInBounds_toArray, List.set_cons_zero, List.set_cons_succ])
      refine wpAnyH_take (i := 19) (oi := { dst := some 97, op := _, type := _, pos := _, after := _, guard := _ }) (v := ?v1x18) rfl (by kernel_rfl) (by kernel_rfl) (by kernel_rfl) (fun _ _ _ h => h) (Or.inl ⟨by kernel_rfl, ?y1x18⟩) (by assumption) ?r1x18
      case y1x18 =>
        intro wS hSw
        (try dsimp only at hSw)
        first | (go_simp; done) | (go_simp; with_reducible rfl)
      (try simp only [Act.put, List.setIfInBounds_toArray, List.set_cons_zero, List.set_cons_succ])
      refine wpAnyH_ready (rs := [18]) (by kernel_rfl) (by simp) ?_
      refine AllReadyH.cons (o := { dst := some 96, op := _, type := _, pos := _, after := _, guard := _ }) rfl (fun K1x19 hK1x19 => ?_) AllReadyH.nil
      go_simp
      refine (empty_any _ _ _).mono ?_
      rintro e q1 ⟨rfl, hb⟩
      rw [HEO.out]
      have HS1 := Lib.hid (keep12 (w := V.drew) hb HK.out)
      clear hb
      go_simp
      refine hK1x19.out _ _ (by exact HS1.out) (fun hHeld1x19 => ?_)
      clear hK1x19 K1x19
      (try simp only [Act.put, List.setIfInBounds_toArray, List.set_cons_zero, List.set_cons_succ])
      refine wpAnyH_ready (rs := [20]) (by kernel_rfl) (by simp) ?_
      refine AllReadyH.cons (o := { dst := some 98, op := _, type := _, pos := _, after := _, guard := _ }) rfl (fun K1x20 hK1x20 => ?_) AllReadyH.nil
      go_simp
      refine (empty_any _ _ _).mono ?_
      rintro e q2 ⟨rfl, hb⟩
      rw [HES.out]
      have HS2 := Lib.hid (keep12 hb HS1.out)
      clear hb
      go_simp
      refine hK1x20.out _ _ (by exact HS2.out) (fun hHeld1x20 => ?_)
      clear hK1x20 K1x20
      (try simp only [Act.put, List.setIfInBounds_toArray, List.set_cons_zero, List.set_cons_succ])
      refine wpAnyH_take (i := 21) (oi := { dst := some 99, op := _, type := _, pos := _, after := _, guard := _ }) (v := ?v1x21) rfl (by kernel_rfl) (by kernel_rfl) (by kernel_rfl) (fun _ _ _ h => h) (Or.inl ⟨by kernel_rfl, ?y1x21⟩) (by assumption) ?r1x21
      case y1x21 =>
        intro wS hSw
        (try dsimp only at hSw)
        first | (go_simp; done) | (go_simp; with_reducible rfl)
      (try simp only [Act.put, List.setIfInBounds_toArray, List.set_cons_zero, List.set_cons_succ])
      refine wpAnyH_take (i := 22) (oi := { dst := some 100, op := _, type := _, pos := _, after := _, guard := _ }) (v := ?v1x22) rfl (by kernel_rfl) (by kernel_rfl) (by kernel_rfl) (fun _ _ _ h => h) (Or.inl ⟨by kernel_rfl, ?y1x22⟩) (by assumption) ?r1x22
      case y1x22 =>
        intro wS hSw
        (try dsimp only at hSw)
        first | (go_simp; done) | (go_simp; with_reducible rfl)
      (try simp only [Act.put, List.setIfInBounds_toArray, List.set_cons_zero, List.set_cons_succ])
      refine wpAnyH_done (by kernel_rfl) ?_ _
      (try dsimp only [Act.put])
      (try simp only [Act.put, List.setIfInBounds_toArray, List.set_cons_zero, List.set_cons_succ])
      go_wp2_with fail
      have HR := Lib.hid (show q2.drew.cell? _ = _ ∧ q2.drew.cell? _ = _ ∧ q2.drew.cell? _ = _ ∧ q2.drew.cell? _ = _ ∧ q2.drew.cell? _ = _ ∧ q2.drew.cell? _ = _ ∧ q2.drew.cell? _ = _ ∧ q2.drew.cell? _ = _ ∧ q2.drew.cell? _ = _ ∧ q2.drew.cell? _ = _ ∧ q2.drew.cell? _ = _ ∧ q2.drew.cell? _ = _ ∧ Below w.heap.size w q2.drew from ⟨HS2.out.1, HS2.out.2.1, HS2.out.2.2.1, HS2.out.2.2.2.1, HS2.out.2.2.2.2.1, HS2.out.2.2.2.2.2.1, HS2.out.2.2.2.2.2.2.1, HS2.out.2.2.2.2.2.2.2.1, HS2.out.2.2.2.2.2.2.2.2.1, HS2.out.2.2.2.2.2.2.2.2.2.1, HS2.out.2.2.2.2.2.2.2.2.2.2.1, HS2.out.2.2.2.2.2.2.2.2.2.2.2.1, HS2.out.2.2.2.2.2.2.2.2.2.2.2.2.drew⟩)
      refine wp_region_held_drew (S := (fun W' => W'.cell? ⟨w.heap.size, 0, none⟩ = some (.int .i64 a0) ∧ W'.cell? ⟨w.heap.size, 1, none⟩ = some (.int .i64 b0) ∧ W'.cell? ⟨y1.heap.size, 0, none⟩ = some (.int .i64 0) ∧ W'.cell? ⟨y1.heap.size, 1, none⟩ = some (.int .i64 0) ∧ W'.cell? ⟨y2.heap.size, 0, none⟩ = some (.int .i64 0) ∧ W'.cell? ⟨y2.heap.size, 1, none⟩ = some (.int .i64 0) ∧ W'.cell? ⟨y3.heap.size, 0, none⟩ = some (.int .i64 f) ∧ W'.cell? ⟨y3.heap.size, 1, none⟩ = some (.int .i64 (f + a1)) ∧ W'.cell? ⟨y4.heap.size, 0, none⟩ = some (.int .i64 0) ∧ W'.cell? ⟨y4.heap.size, 1, none⟩ = some (.int .i64 0) ∧ W'.cell? ⟨y5.heap.size, 0, none⟩ = some (.int .i64 0) ∧ W'.cell? ⟨y5.heap.size, 1, none⟩ = some (.int .i64 0) ∧ Below w.heap.size w W')) (by kernel_rfl) (by exact HR.out) (fun hHeld2 => ?_)
      refine wpAnyH_take (i := 0) (oi := { dst := some 101, op := _, type := _, pos := _, after := _, guard := _ }) (v := ?v2x0) rfl (by kernel_rfl) (by kernel_rfl) (by kernel_rfl) (fun _ _ _ h => h) (Or.inl ⟨by kernel_rfl, ?y2x0⟩) (by assumption) ?r2x0
      case y2x0 =>
        intro wS hSw
        (try dsimp only at hSw)
        first | (go_simp; done) | (go_simp; with_reducible rfl)
      (try simp only [Act.put, List.setIfInBounds_toArray, List.set_cons_zero, List.set_cons_succ])
      refine wpAnyH_take (i := 1) (oi := { dst := some 102, op := _, type := _, pos := _, after := _, guard := _ }) (v := ?v2x1) rfl (by kernel_rfl) (by kernel_rfl) (by kernel_rfl) (fun _ _ _ h => h) (Or.inl ⟨by kernel_rfl, ?y2x1⟩) (by assumption) ?r2x1
      case y2x1 =>
        intro wS hSw
        (try dsimp only at hSw)
        first | (go_simp; done) | (go_simp; with_reducible rfl)
      (try simp only [Act.put, List.setIfInBounds_toArray, List.set_cons_zero, List.set_cons_succ])
      refine wpAnyH_take (i := 3) (oi := { dst := some 104, op := _, type := _, pos := _, after := _, guard := _ }) (v := ?v2x2) rfl (by kernel_rfl) (by kernel_rfl) (by kernel_rfl) (fun _ _ _ h => h) (Or.inl ⟨by kernel_rfl, ?y2x2⟩) (by assumption) ?r2x2
      case y2x2 =>
        intro wS hSw
        (try dsimp only at hSw)
        first | (go_simp; done) | (go_simp; with_reducible rfl)
      (try simp only [Act.put, List.setIfInBounds_toArray, List.set_cons_zero, List.set_cons_succ])
      refine wpAnyH_take (i := 4) (oi := { dst := some 105, op := _, type := _, pos := _, after := _, guard := _ }) (v := ?v2x3) rfl (by kernel_rfl) (by kernel_rfl) (by kernel_rfl) (fun _ _ _ h => h) (Or.inl ⟨by kernel_rfl, ?y2x3⟩) (by assumption) ?r2x3
      case y2x3 =>
        intro wS hSw
        (try dsimp only at hSw)
        first | (go_simp; done) | (go_simp; with_reducible rfl)
      (try simp only [Act.put, List.setIfInBounds_toArray, List.set_cons_zero, List.set_cons_succ])
      refine wpAnyH_ready (rs := [2]) (by kernel_rfl) (by simp) ?_
      refine AllReadyH.cons (o := { dst := some 103, op := _, type := _, pos := _, after := _, guard := _ }) rfl (fun K2x4 hK2x4 => ?_) AllReadyH.nil
      go_simp
      refine (has_any _ _ _ _).mono ?_
      rintro e q3 ⟨rfl, hb⟩
      rw [HHO.out]
      have HS3 := Lib.hid (keep12 (w := q2.drew) hb HR.out)
      clear hb
      go_simp
      refine hK2x4.out _ _ (by exact HS3.out) (fun hHeld2x4 => ?_)
      clear hK2x4 K2x4
      (try simp only [Act.put, List.setIfInBounds_toArray, List.set_cons_zero, List.set_cons_succ])
      refine wpAnyH_ready (rs := [5]) (by kernel_rfl) (by simp) ?_
      refine AllReadyH.cons (o := { dst := some 106, op := _, type := _, pos := _, after := _, guard := _ }) rfl (fun K2x5 hK2x5 => ?_) AllReadyH.nil
      go_simp
      refine (and_any _ _ _ _ _).mono ?_
      rintro e q4 ⟨rfl, hb⟩
      rw [HBS.out]
      simp only [spanV]
      have HS4 := Lib.hid (keep12 hb HS3.out)
      clear hb
      go_simp
      refine hK2x5.out _ _ (by exact HS4.out) (fun hHeld2x5 => ?_)
      clear hK2x5 K2x5
      (try simp only [Act.put, List.setIfInBounds_toArray, List.set_cons_zero, List.set_cons_succ])
      refine wpAnyH_ready (rs := [6]) (by kernel_rfl) (by simp) ?_
      refine AllReadyH.cons (o := { dst := some 107, op := _, type := _, pos := _, after := _, guard := _ }) rfl (fun K2x6 hK2x6 => ?_) AllReadyH.nil
      go_simp
      refine (empty_any _ _ _).mono ?_
      rintro e q5 ⟨rfl, hb⟩
      rw [HEC.out]
      have HS5 := Lib.hid (keep12 hb HS4.out)
      clear hb
      go_simp
      refine hK2x6.out _ _ (by exact HS5.out) (fun hHeld2x6 => ?_)
      clear hK2x6 K2x6
      (try simp only [Act.put, List.setIfInBounds_toArray, List.set_cons_zero, List.set_cons_succ])
      refine wpAnyH_take (i := 7) (oi := { dst := some 108, op := _, type := _, pos := _, after := _, guard := _ }) (v := ?v2x7) rfl (by kernel_rfl) (by kernel_rfl) (by kernel_rfl) (fun _ _ _ h => h) (Or.inl ⟨by kernel_rfl, ?y2x7⟩) (by assumption) ?r2x7
      case y2x7 =>
        intro wS hSw
        (try dsimp only at hSw)
        first | (go_simp; done) | (go_simp; with_reducible rfl)
      (try simp only [Act.put, List.setIfInBounds_toArray, List.set_cons_zero, List.set_cons_succ])
      refine wpAnyH_take (i := 8) (oi := { dst := some 109, op := _, type := _, pos := _, after := _, guard := _ }) (v := ?v2x8) rfl (by kernel_rfl) (by kernel_rfl) (by kernel_rfl) (fun _ _ _ h => h) (Or.inl ⟨by kernel_rfl, ?y2x8⟩) (by assumption) ?r2x8
      case y2x8 =>
        intro wS hSw
        (try dsimp only at hSw)
        first | (go_simp; done) | (go_simp; with_reducible rfl)
      (try simp only [Act.put, List.setIfInBounds_toArray, List.set_cons_zero, List.set_cons_succ])
      refine wpAnyH_done (by kernel_rfl) ?_ _
      (try dsimp only [Act.put])
      (try simp only [Act.put, List.setIfInBounds_toArray, List.set_cons_zero, List.set_cons_succ])
      go_wp2_with fail
      have HR2 := Lib.hid (show q5.drew.cell? _ = _ ∧ q5.drew.cell? _ = _ ∧ q5.drew.cell? _ = _ ∧ q5.drew.cell? _ = _ ∧ q5.drew.cell? _ = _ ∧ q5.drew.cell? _ = _ ∧ q5.drew.cell? _ = _ ∧ q5.drew.cell? _ = _ ∧ q5.drew.cell? _ = _ ∧ q5.drew.cell? _ = _ ∧ q5.drew.cell? _ = _ ∧ q5.drew.cell? _ = _ ∧ Below w.heap.size w q5.drew from ⟨HS5.out.1, HS5.out.2.1, HS5.out.2.2.1, HS5.out.2.2.2.1, HS5.out.2.2.2.2.1, HS5.out.2.2.2.2.2.1, HS5.out.2.2.2.2.2.2.1, HS5.out.2.2.2.2.2.2.2.1, HS5.out.2.2.2.2.2.2.2.2.1, HS5.out.2.2.2.2.2.2.2.2.2.1, HS5.out.2.2.2.2.2.2.2.2.2.2.1, HS5.out.2.2.2.2.2.2.2.2.2.2.2.1, HS5.out.2.2.2.2.2.2.2.2.2.2.2.2.drew⟩)
      refine wp_region_held_drew (S := (fun W' => W'.cell? ⟨w.heap.size, 0, none⟩ = some (.int .i64 a0) ∧ W'.cell? ⟨w.heap.size, 1, none⟩ = some (.int .i64 b0) ∧ W'.cell? ⟨y1.heap.size, 0, none⟩ = some (.int .i64 0) ∧ W'.cell? ⟨y1.heap.size, 1, none⟩ = some (.int .i64 0) ∧ W'.cell? ⟨y2.heap.size, 0, none⟩ = some (.int .i64 0) ∧ W'.cell? ⟨y2.heap.size, 1, none⟩ = some (.int .i64 0) ∧ W'.cell? ⟨y3.heap.size, 0, none⟩ = some (.int .i64 f) ∧ W'.cell? ⟨y3.heap.size, 1, none⟩ = some (.int .i64 (f + a1)) ∧ W'.cell? ⟨y4.heap.size, 0, none⟩ = some (.int .i64 0) ∧ W'.cell? ⟨y4.heap.size, 1, none⟩ = some (.int .i64 0) ∧ W'.cell? ⟨y5.heap.size, 0, none⟩ = some (.int .i64 0) ∧ W'.cell? ⟨y5.heap.size, 1, none⟩ = some (.int .i64 0) ∧ Below w.heap.size w W')) (by kernel_rfl) (by exact HR2.out) (fun hHeld3 => ?_)
      refine wpAnyH_take (i := 0) (oi := { dst := some 110, op := _, type := _, pos := _, after := _, guard := _ }) (v := ?v3x0) rfl (by kernel_rfl) (by kernel_rfl) (by kernel_rfl) (fun _ _ _ h => h) (Or.inl ⟨by kernel_rfl, ?y3x0⟩) (by assumption) ?r3x0
      case y3x0 =>
        intro wS hSw
        (try dsimp only at hSw)
        first | (go_simp; done) | (go_simp; with_reducible rfl)
      (try simp only [Act.put, List.setIfInBounds_toArray, List.set_cons_zero, List.set_cons_succ])
      refine wpAnyH_take (i := 1) (oi := { dst := some 111, op := _, type := _, pos := _, after := _, guard := _ }) (v := ?v3x1) rfl (by kernel_rfl) (by kernel_rfl) (by kernel_rfl) (fun _ _ _ h => h) (Or.inl ⟨by kernel_rfl, ?y3x1⟩) (by assumption) ?r3x1
      case y3x1 =>
        intro wS hSw
        (try dsimp only at hSw)
        first | (go_simp; done) | (go_simp; with_reducible rfl)
      (try simp only [Act.put, List.setIfInBounds_toArray, List.set_cons_zero, List.set_cons_succ])
      refine wpAnyH_take (i := 3) (oi := { dst := some 113, op := _, type := _, pos := _, after := _, guard := _ }) (v := ?v3x2) rfl (by kernel_rfl) (by kernel_rfl) (by kernel_rfl) (fun _ _ _ h => h) (Or.inl ⟨by kernel_rfl, ?y3x2⟩) (by assumption) ?r3x2
      case y3x2 =>
        intro wS hSw
        (try dsimp only at hSw)
        first | (go_simp; done) | (go_simp; with_reducible rfl)
      (try simp only [Act.put, List.setIfInBounds_toArray, List.set_cons_zero, List.set_cons_succ])
      refine wpAnyH_ready (rs := [2]) (by kernel_rfl) (by simp) ?_
      refine AllReadyH.cons (o := { dst := some 112, op := _, type := _, pos := _, after := _, guard := _ }) rfl (fun K3x3 hK3x3 => ?_) AllReadyH.nil
      go_simp
      refine (has_any _ _ _ _).mono ?_
      rintro e q6 ⟨rfl, hb⟩
      rw [HHI.out]
      have HS6 := Lib.hid (keep12 (w := q5.drew) hb HR2.out)
      clear hb
      go_simp
      refine hK3x3.out _ _ (by exact HS6.out) (fun hHeld3x3 => ?_)
      clear hK3x3 K3x3
      (try simp only [Act.put, List.setIfInBounds_toArray, List.set_cons_zero, List.set_cons_succ])
      refine wpAnyH_ready (rs := [4]) (by kernel_rfl) (by simp) ?_
      refine AllReadyH.cons (o := { dst := some 114, op := _, type := _, pos := _, after := _, guard := _ }) rfl (fun K3x4 hK3x4 => ?_) AllReadyH.nil
      go_simp
      refine (empty_any _ _ _).mono ?_
      rintro e q7 ⟨rfl, hb⟩
      rw [HES.out]
      have HS7 := Lib.hid (keep12 hb HS6.out)
      clear hb
      go_simp
      refine hK3x4.out _ _ (by exact HS7.out) (fun hHeld3x4 => ?_)
      clear hK3x4 K3x4
      (try simp only [Act.put, List.setIfInBounds_toArray, List.set_cons_zero, List.set_cons_succ])
      refine wpAnyH_take (i := 5) (oi := { dst := some 115, op := _, type := _, pos := _, after := _, guard := _ }) (v := ?v3x5) rfl (by kernel_rfl) (by kernel_rfl) (by kernel_rfl) (fun _ _ _ h => h) (Or.inl ⟨by kernel_rfl, ?y3x5⟩) (by assumption) ?r3x5
      case y3x5 =>
        intro wS hSw
        (try dsimp only at hSw)
        first | (go_simp; done) | (go_simp; with_reducible rfl)
      (try simp only [Act.put, List.setIfInBounds_toArray, List.set_cons_zero, List.set_cons_succ])
      refine wpAnyH_take (i := 6) (oi := { dst := some 116, op := _, type := _, pos := _, after := _, guard := _ }) (v := ?v3x6) rfl (by kernel_rfl) (by kernel_rfl) (by kernel_rfl) (fun _ _ _ h => h) (Or.inl ⟨by kernel_rfl, ?y3x6⟩) (by assumption) ?r3x6
      case y3x6 =>
        intro wS hSw
        (try dsimp only at hSw)
        first | (go_simp; done) | (go_simp; with_reducible rfl)
      (try simp only [Act.put, List.setIfInBounds_toArray, List.set_cons_zero, List.set_cons_succ])
      refine wpAnyH_take (i := 7) (oi := { dst := some 117, op := _, type := _, pos := _, after := _, guard := _ }) rfl (by kernel_rfl) (by kernel_rfl) (by kernel_rfl) (fun _ _ _ h => h) (Or.inr ⟨by kernel_rfl, rfl⟩) (by assumption) ?_
      (try simp only [Act.put, List.setIfInBounds_toArray, List.set_cons_zero, List.set_cons_succ])
      refine wpAnyH_take (i := 8) (oi := { dst := some 118, op := _, type := _, pos := _, after := _, guard := _ }) rfl (by kernel_rfl) (by kernel_rfl) (by kernel_rfl) (fun _ _ _ h => h) (Or.inr ⟨by kernel_rfl, rfl⟩) (by assumption) ?_
      (try simp only [Act.put, List.setIfInBounds_toArray, List.set_cons_zero, List.set_cons_succ])
      refine wpAnyH_take (i := 10) (oi := { dst := some 120, op := _, type := _, pos := _, after := _, guard := _ }) rfl (by kernel_rfl) (by kernel_rfl) (by kernel_rfl) (fun _ _ _ h => h) (Or.inr ⟨by kernel_rfl, rfl⟩) (by assumption) ?_
      (try simp only [Act.put, List.setIfInBounds_toArray, List.set_cons_zero, List.set_cons_succ])
      refine wpAnyH_ready (rs := [9]) (by kernel_rfl) (by simp) ?_
      refine AllReadyH.cons (o := { dst := some 119, op := _, type := _, pos := _, after := _, guard := _ }) rfl (fun K3x10 hK3x10 => ?_) AllReadyH.nil
      go_simp
      refine hK3x10.out _ _ (by exact HS7.out) (fun hHeld3x10 => ?_)
      clear hK3x10 K3x10
      (try simp only [Act.put, List.setIfInBounds_toArray, List.set_cons_zero, List.set_cons_succ])
      refine wpAnyH_take (i := 11) (oi := { dst := some 121, op := _, type := _, pos := _, after := _, guard := _ }) rfl (by kernel_rfl) (by kernel_rfl) (by kernel_rfl) (fun _ _ _ h => h) (Or.inr ⟨by kernel_rfl, rfl⟩) (by assumption) ?_
      (try simp only [Act.put, List.setIfInBounds_toArray, List.set_cons_zero, List.set_cons_succ])
      refine wpAnyH_take (i := 12) (oi := { dst := some 122, op := _, type := _, pos := _, after := _, guard := _ }) (v := ?v3x12) rfl (by kernel_rfl) (by kernel_rfl) (by kernel_rfl) (fun _ _ _ h => h) (Or.inl ⟨by kernel_rfl, ?y3x12⟩) (by assumption) ?r3x12
      case y3x12 =>
        intro wS hSw
        (try dsimp only at hSw)
        first | (go_simp; done) | (go_simp; with_reducible rfl)
      (try simp only [Act.put, List.setIfInBounds_toArray, List.set_cons_zero, List.set_cons_succ])
      refine wpAnyH_take (i := 13) (oi := { dst := some 123, op := _, type := _, pos := _, after := _, guard := _ }) (v := ?v3x13) rfl (by kernel_rfl) (by kernel_rfl) (by kernel_rfl) (fun _ _ _ h => h) (Or.inl ⟨by kernel_rfl, ?y3x13⟩) (by assumption) ?r3x13
      case y3x13 =>
        intro wS hSw
        (try dsimp only at hSw)
        first | (go_simp; done) | (go_simp; with_reducible rfl)
      (try simp only [Act.put, List.setIfInBounds_toArray, List.set_cons_zero, List.set_cons_succ])
      refine wpAnyH_take (i := 14) (oi := { dst := some 124, op := _, type := _, pos := _, after := _, guard := _ }) (v := ?v3x14) rfl (by kernel_rfl) (by kernel_rfl) (by kernel_rfl) (fun _ _ _ h => h) (Or.inl ⟨by kernel_rfl, ?y3x14⟩) (by assumption) ?r3x14
      case y3x14 =>
        intro wS hSw
        (try dsimp only at hSw)
        first | (go_simp; done) | (go_simp; with_reducible rfl)
      (try simp only [Act.put, List.setIfInBounds_toArray, List.set_cons_zero, List.set_cons_succ])
      refine wpAnyH_take (i := 15) (oi := { dst := some 125, op := _, type := _, pos := _, after := _, guard := _ }) (v := ?v3x15) rfl (by kernel_rfl) (by kernel_rfl) (by kernel_rfl) (fun _ _ _ h => h) (Or.inl ⟨by kernel_rfl, ?y3x15⟩) (by assumption) ?r3x15
      case y3x15 =>
        intro wS hSw
        (try dsimp only at hSw)
        first | (go_simp; done) | (go_simp; with_reducible rfl)
      (try simp only [Act.put, List.setIfInBounds_toArray, List.set_cons_zero, List.set_cons_succ])
      refine wpAnyH_take (i := 16) (oi := { dst := some 126, op := _, type := _, pos := _, after := _, guard := _ }) (v := ?v3x16) rfl (by kernel_rfl) (by kernel_rfl) (by kernel_rfl) (fun _ _ _ h => h) (Or.inl ⟨by kernel_rfl, ?y3x16⟩) (by assumption) ?r3x16
      case y3x16 =>
        intro wS hSw
        (try dsimp only at hSw)
        first | (go_simp; done) | (go_simp; with_reducible rfl)
      (try simp only [Act.put, List.setIfInBounds_toArray, List.set_cons_zero, List.set_cons_succ])
      refine wpAnyH_take (i := 18) (oi := { dst := some 128, op := _, type := _, pos := _, after := _, guard := _ }) (v := ?v3x17) rfl (by kernel_rfl) (by kernel_rfl) (by kernel_rfl) (fun _ _ _ h => h) (Or.inl ⟨by kernel_rfl, ?y3x17⟩) (by assumption) ?r3x17
      case y3x17 =>
        intro wS hSw
        (try dsimp only at hSw)
        first | (go_simp; done) | (go_simp; with_reducible rfl)
      (try simp only [Act.put, List.setIfInBounds_toArray, List.set_cons_zero, List.set_cons_succ])
      refine wpAnyH_ready (rs := [17]) (by kernel_rfl) (by simp) ?_
      refine AllReadyH.cons (o := { dst := some 127, op := _, type := _, pos := _, after := _, guard := _ }) rfl (fun K3x18 hK3x18 => ?_) AllReadyH.nil
      go_simp
      refine (and_any _ _ _ _ _).mono ?_
      rintro e q8 ⟨rfl, hb⟩
      rw [HIS.out]
      simp only [spanV]
      have HS8 := Lib.hid (keep12 hb HS7.out)
      clear hb
      go_simp
      refine hK3x18.out _ _ (by exact HS8.out) (fun hHeld3x18 => ?_)
      clear hK3x18 K3x18
      (try simp only [Act.put, List.setIfInBounds_toArray, List.set_cons_zero, List.set_cons_succ])
      refine wpAnyH_take (i := 19) (oi := { dst := some 129, op := _, type := _, pos := _, after := _, guard := _ }) (v := ?v3x19) rfl (by kernel_rfl) (by kernel_rfl) (by kernel_rfl) (fun _ _ _ h => h) (Or.inl ⟨by kernel_rfl, ?y3x19⟩) (by assumption) ?r3x19
      case y3x19 =>
        intro wS hSw
        (try dsimp only at hSw)
        first | (go_simp; done) | (go_simp; with_reducible rfl)
      (try simp only [Act.put, List.setIfInBounds_toArray, List.set_cons_zero, List.set_cons_succ])
      refine wpAnyH_take (i := 20) (oi := { dst := some 130, op := _, type := _, pos := _, after := _, guard := _ }) (v := ?v3x20) rfl (by kernel_rfl) (by kernel_rfl) (by kernel_rfl) (fun _ _ _ h => h) (Or.inl ⟨by kernel_rfl, ?y3x20⟩) (by assumption) ?r3x20
      case y3x20 =>
        intro wS hSw
        (try dsimp only at hSw)
        first | (go_simp; done) | (go_simp; with_reducible rfl)
      (try simp only [Act.put, List.setIfInBounds_toArray, List.set_cons_zero, List.set_cons_succ])
      refine wpAnyH_take (i := 21) (oi := { dst := some 131, op := _, type := _, pos := _, after := _, guard := _ }) (v := ?v3x21) rfl (by kernel_rfl) (by kernel_rfl) (by kernel_rfl) (fun _ _ _ h => h) (Or.inl ⟨by kernel_rfl, ?y3x21⟩) (by assumption) ?r3x21
      case y3x21 =>
        intro wS hSw
        (try dsimp only at hSw)
        first | (go_simp; done) | (go_simp; with_reducible rfl)
      (try simp only [Act.put, List.setIfInBounds_toArray, List.set_cons_zero, List.set_cons_succ])
      refine wpAnyH_take (i := 22) (oi := { dst := some 132, op := _, type := _, pos := _, after := _, guard := _ }) (v := ?v3x22) rfl (by kernel_rfl) (by kernel_rfl) (by kernel_rfl) (fun _ _ _ h => h) (Or.inl ⟨by kernel_rfl, ?y3x22⟩) (by assumption) ?r3x22
      case y3x22 =>
        intro wS hSw
        (try dsimp only at hSw)
        first | (go_simp; done) | (go_simp; with_reducible rfl)
      (try simp only [Act.put, List.setIfInBounds_toArray, List.set_cons_zero, List.set_cons_succ])
      refine wpAnyH_take (i := 23) (oi := { dst := some 133, op := _, type := _, pos := _, after := _, guard := _ }) (v := ?v3x23) rfl (by kernel_rfl) (by kernel_rfl) (by kernel_rfl) (fun _ _ _ h => h) (Or.inl ⟨by kernel_rfl, ?y3x23⟩) (by assumption) ?r3x23
      case y3x23 =>
        intro wS hSw
        (try dsimp only at hSw)
        first | (go_simp; done) | (go_simp; with_reducible rfl)
      (try simp only [Act.put, List.setIfInBounds_toArray, List.set_cons_zero, List.set_cons_succ])
      refine wpAnyH_take (i := 25) (oi := { dst := some 135, op := _, type := _, pos := _, after := _, guard := _ }) (v := ?v3x24) rfl (by kernel_rfl) (by kernel_rfl) (by kernel_rfl) (fun _ _ _ h => h) (Or.inl ⟨by kernel_rfl, ?y3x24⟩) (by assumption) ?r3x24
      case y3x24 =>
        intro wS hSw
        (try dsimp only at hSw)
        first | (go_simp; done) | (go_simp; with_reducible rfl)
      (try simp only [Act.put, List.setIfInBounds_toArray, List.set_cons_zero, List.set_cons_succ])
      refine wpAnyH_take (i := 26) (oi := { dst := some 136, op := _, type := _, pos := _, after := _, guard := _ }) (v := ?v3x25) rfl (by kernel_rfl) (by kernel_rfl) (by kernel_rfl) (fun _ _ _ h => h) (Or.inl ⟨by kernel_rfl, ?y3x25⟩) (by assumption) ?r3x25
      case y3x25 =>
        intro wS hSw
        (try dsimp only at hSw)
        first | (go_simp; done) | (go_simp; with_reducible rfl)
      (try simp only [Act.put, List.setIfInBounds_toArray, List.set_cons_zero, List.set_cons_succ])
      refine wpAnyH_ready (rs := [24]) (by kernel_rfl) (by simp) ?_
      refine AllReadyH.cons (o := { dst := some 134, op := _, type := _, pos := _, after := _, guard := _ }) rfl (fun K3x26 hK3x26 => ?_) AllReadyH.nil
      go_simp
      refine (and_any _ _ _ _ _).mono ?_
      rintro e q9 ⟨rfl, hb⟩
      rw [HSO.out]
      simp only [spanV]
      have HS9 := Lib.hid (keep12 hb HS8.out)
      clear hb
      go_simp
      refine hK3x26.out _ _ (by exact HS9.out) (fun hHeld3x26 => ?_)
      clear hK3x26 K3x26
      (try simp only [Act.put, List.setIfInBounds_toArray, List.set_cons_zero, List.set_cons_succ])
      refine wpAnyH_ready (rs := [27]) (by kernel_rfl) (by simp) ?_
      refine AllReadyH.cons (o := { dst := some 137, op := _, type := _, pos := _, after := _, guard := _ }) rfl (fun K3x27 hK3x27 => ?_) AllReadyH.nil
      go_simp
      refine (and_any _ _ _ _ _).mono ?_
      rintro e q10 ⟨rfl, hb⟩
      rw [HSS.out]
      simp only [spanV]
      have HS10 := Lib.hid (keep12 hb HS9.out)
      clear hb
      go_simp
      refine hK3x27.out _ _ (by exact HS10.out) (fun hHeld3x27 => ?_)
      clear hK3x27 K3x27
      (try simp only [Act.put, List.setIfInBounds_toArray, List.set_cons_zero, List.set_cons_succ])
      refine wpAnyH_take (i := 28) (oi := { dst := some 138, op := _, type := _, pos := _, after := _, guard := _ }) (v := ?v3x28) rfl (by kernel_rfl) (by kernel_rfl) (by kernel_rfl) (fun _ _ _ h => h) (Or.inl ⟨by kernel_rfl, ?y3x28⟩) (by assumption) ?r3x28
      case y3x28 =>
        intro wS hSw
        (try dsimp only at hSw)
        first | (go_simp; done) | (go_simp; with_reducible rfl)
      (try simp only [Act.put, List.setIfInBounds_toArray, List.set_cons_zero, List.set_cons_succ])
      refine wpAnyH_take (i := 29) (oi := { dst := some 139, op := _, type := _, pos := _, after := _, guard := _ }) (v := ?v3x29) rfl (by kernel_rfl) (by kernel_rfl) (by kernel_rfl) (fun _ _ _ h => h) (Or.inl ⟨by kernel_rfl, ?y3x29⟩) (by assumption) ?r3x29
      case y3x29 =>
        intro wS hSw
        (try dsimp only at hSw)
        first | (go_simp; done) | (go_simp; with_reducible rfl)
      (try simp only [Act.put, List.setIfInBounds_toArray, List.set_cons_zero, List.set_cons_succ])
      refine wpAnyH_take (i := 30) (oi := { dst := some 140, op := _, type := _, pos := _, after := _, guard := _ }) (v := ?v3x30) rfl (by kernel_rfl) (by kernel_rfl) (by kernel_rfl) (fun _ _ _ h => h) (Or.inl ⟨by kernel_rfl, ?y3x30⟩) (by assumption) ?r3x30
      case y3x30 =>
        intro wS hSw
        (try dsimp only at hSw)
        first | (go_simp; done) | (go_simp; with_reducible rfl)
      (try simp only [Act.put, List.setIfInBounds_toArray, List.set_cons_zero, List.set_cons_succ])
      refine wpAnyH_ready (rs := [31]) (by kernel_rfl) (by simp) ?_
      refine AllReadyH.cons (o := { dst := some 141, op := _, type := _, pos := _, after := _, guard := _ }) rfl (fun K3x31 hK3x31 => ?_) AllReadyH.nil
      go_simp
      refine (wakes_any _).mono ?_
      rintro e q11 ⟨rfl, hb⟩
      have HS11 := Lib.hid (keep12 hb HS10.out)
      clear hb
      go_simp
      refine hK3x31.out _ _ (by exact HS11.out) (fun hHeld3x31 => ?_)
      clear hK3x31 K3x31
      (try simp only [Act.put, List.setIfInBounds_toArray, List.set_cons_zero, List.set_cons_succ])
      refine wpAnyH_take (i := 32) (oi := { dst := some 142, op := _, type := _, pos := _, after := _, guard := _ }) (v := ?v3x32) rfl (by kernel_rfl) (by kernel_rfl) (by kernel_rfl) (fun _ _ _ h => h) (Or.inl ⟨by kernel_rfl, ?y3x32⟩) (by assumption) ?r3x32
      case y3x32 =>
        intro wS hSw
        (try dsimp only at hSw)
        first | (go_simp; done) | (go_simp; with_reducible rfl)
      (try simp only [Act.put, List.setIfInBounds_toArray, List.set_cons_zero, List.set_cons_succ])
      refine wpAnyH_take (i := 33) (oi := { dst := some 6, op := _, type := _, pos := _, after := _, guard := _ }) (v := ?v3x33) rfl (by kernel_rfl) (by kernel_rfl) (by kernel_rfl) (fun _ _ _ h => h) (Or.inl ⟨by kernel_rfl, ?y3x33⟩) (by assumption) ?r3x33
      case y3x33 =>
        intro wS hSw
        (try dsimp only at hSw)
        first | (go_simp; done) | (go_simp; with_reducible rfl)
      (try simp only [Act.put, List.setIfInBounds_toArray, List.set_cons_zero, List.set_cons_succ])
      refine wpAnyH_done (by kernel_rfl) ?_ _
      (try dsimp only [Act.put])
      (try simp only [Act.put, List.setIfInBounds_toArray, List.set_cons_zero, List.set_cons_succ])
      go_wp2_with fail
      go_ret
      exact ⟨rfl, HS11.out.2.2.2.2.2.2.2.2.2.2.2.2⟩
    · obtain ⟨f1, f2, f3, f4, f5, f6, f7⟩ := whole_facts (a := a0) (b := b0) (t := a2) n1 (by omega) mf r1 (by omega)
      obtain ⟨v1, v2⟩ := floorS_bd (t := a0) n1
      obtain ⟨v3, v4⟩ := ceil_bd (t := b0) n1
      obtain ⟨v5, v6⟩ := ceil_bd (t := a0) n1
      obtain ⟨v7, v8⟩ := floorS_bd (t := b0) n1
      have j1 := goodS_fst_snd (ceilS a0 a1) (floorS b0 a1)
      have E1 := Lib.hid (show wholeS floorS ceilS a0 b0 a1 = ((floorS a0 a1, ceilS b0 a1), 0) by rw [wholeS, if_pos (errS_in2 g3 (by omega) (by omega) (by omega) (by omega)), if_neg hab, goodS, if_neg (by omega)])
      have E2 := Lib.hid (show wholeS ceilS floorS a0 b0 a1 = (((goodS (ceilS a0 a1) (floorS b0 a1)).1, (goodS (ceilS a0 a1) (floorS b0 a1)).2), 0) by rw [wholeS, if_pos (errS_in2 g3 (by omega) (by omega) (by omega) (by omega)), if_neg hab])
      have E4 := Lib.hid (show wholeS floorS ceilS (floorS a0 a1) (ceilS b0 a1) a1 = ((floorS a0 a1, ceilS b0 a1), 0) by rw [wholeS, if_pos (errS_in2 g3 (by omega) (by omega) (by omega) (by omega)), if_neg (by omega), floor_of floor_mod, ceil_of ceil_mod, goodS, if_neg (by omega)])
      have E5 := Lib.hid (show wholeS ceilS floorS (goodS (ceilS a0 a1) (floorS b0 a1)).1 (goodS (ceilS a0 a1) (floorS b0 a1)).2 a1 = (((goodS (ceilS a0 a1) (floorS b0 a1)).1, (goodS (ceilS a0 a1) (floorS b0 a1)).2), 0) by
        rcases j1 with ⟨j1, j2, j3⟩ | ⟨j1, j2, j3⟩
        · rw [j1, j2, wholeS, if_pos (errS_in2 g3 (by omega) (by omega) (by omega) (by omega)), if_neg (by omega), ceil_of ceil_mod, floor_of floor_mod, goodS, if_neg (by omega)]
        · rw [j1, j2, wholeS, if_pos (errS_in2 g3 (by omega) (by omega) (by omega) (by omega)), if_pos (by omega)])
      generalize floorS a0 a1 = o1 at *
      generalize ceilS b0 a1 = o2 at *
      have f5' : andS (goodS (ceilS a0 a1) (floorS b0 a1)).1 (goodS (ceilS a0 a1) (floorS b0 a1)).2 a0 b0 = ((goodS (ceilS a0 a1) (floorS b0 a1)).1, (goodS (ceilS a0 a1) (floorS b0 a1)).2) := f5
      clear f5 j1 v5 v6 v7 v8
      generalize (goodS (ceilS a0 a1) (floorS b0 a1)).1 = i1 at *
      generalize (goodS (ceilS a0 a1) (floorS b0 a1)).2 = i2 at *
      obtain ⟨⟨c1, c2⟩, hc⟩ : ∃ p, andS f (f + a1) a0 b0 = p := ⟨_, rfl⟩
      rw [hc] at f2 f6 f7
      simp only [Prod.mk.injEq] at f6 f7
      obtain ⟨hh, hhh⟩ : ∃ hh, hasB o1 o2 a2 = hh := ⟨_, rfl⟩
      have HEO := Lib.hid (show emptyB o1 o2 = false by simp [emptyB]; omega)
      have HES := Lib.hid (show emptyB a0 b0 = false by simp [emptyB]; omega)
      have HHO := Lib.hid hhh
      have HBS := Lib.hid hc
      have HEC := Lib.hid (show emptyB c1 c2 = !hh by rw [← hhh, f2]; simp)
      have HIS := Lib.hid f5'
      have HSO := Lib.hid f3
      have HSS := Lib.hid f4
      have F6 := Lib.hid f6
      have F7 := Lib.hid f7
      clear g1 g2 g3 g4 mf f1 f2 f3 f4 f5' f6 f7 hc hhh v1 v2 v3 v4
      go_enter Try.func5, Try.ntmps5
      go_wp2_with fail
      refine (time_any _ _).mono ?_
      rintro e w' ⟨rfl, rfl⟩
      rw [G1.out]
      go_wp2_with fail
      refine (time_any _ _).mono ?_
      rintro e w' ⟨rfl, rfl⟩
      rw [G2.out]
      go_wp2_with fail
      refine (width_any _ _).mono ?_
      rintro e w' ⟨rfl, rfl⟩
      rw [G3.out]
      go_wp2_with fail
      refine (time_any _ _).mono ?_
      rintro e w' ⟨rfl, rfl⟩
      rw [G4.out]
      have s0 := (new_cells w (.int .i64 a0) (.int .i64 b0)).1
      have s1 := (new_cells w (.int .i64 a0) (.int .i64 b0)).2
      have sB := alloc1 w (.cells #[.int .i64 a0, .int .i64 b0] 23)
      go_wp2_with fail
      refine (Out_any _ _ _ _).mono ?_
      rintro e y1 ⟨rfl, hb⟩
      rw [E1.out]
      simp only [tupS]
      replace s0 := cell_below s0 hb
      replace s1 := cell_below s1 hb
      replace sB := below_step sB hb
      clear hb
      have fo0 := (new_cells y1 (.int .i64 o1) (.int .i64 o2)).1
      have fo1 := (new_cells y1 (.int .i64 o1) (.int .i64 o2)).2
      replace s0 := cell_alloc s0 (.cells #[.int .i64 o1, .int .i64 o2] 23)
      replace s1 := cell_alloc s1 (.cells #[.int .i64 o1, .int .i64 o2] 23)
      replace sB := below_step sB (alloc1 y1 (.cells #[.int .i64 o1, .int .i64 o2] 23))
      go_wp2_with fail
      refine (In_any _ _ _ _).mono ?_
      rintro e y2 ⟨rfl, hb⟩
      rw [E2.out]
      simp only [tupS]
      replace s0 := cell_below s0 hb
      replace s1 := cell_below s1 hb
      replace fo0 := cell_below fo0 hb
      replace fo1 := cell_below fo1 hb
      replace sB := below_step sB hb
      clear hb
      have fi0 := (new_cells y2 (.int .i64 i1) (.int .i64 i2)).1
      have fi1 := (new_cells y2 (.int .i64 i1) (.int .i64 i2)).2
      replace s0 := cell_alloc s0 (.cells #[.int .i64 i1, .int .i64 i2] 23)
      replace s1 := cell_alloc s1 (.cells #[.int .i64 i1, .int .i64 i2] 23)
      replace fo0 := cell_alloc fo0 (.cells #[.int .i64 i1, .int .i64 i2] 23)
      replace fo1 := cell_alloc fo1 (.cells #[.int .i64 i1, .int .i64 i2] 23)
      replace sB := below_step sB (alloc1 y2 (.cells #[.int .i64 i1, .int .i64 i2] 23))
      go_wp2_with fail
      refine (Bucket_any _ _ _).mono ?_
      rintro e y3 ⟨rfl, hb⟩
      rw [E3.out]
      simp only [tupS]
      replace s0 := cell_below s0 hb
      replace s1 := cell_below s1 hb
      replace fo0 := cell_below fo0 hb
      replace fo1 := cell_below fo1 hb
      replace fi0 := cell_below fi0 hb
      replace fi1 := cell_below fi1 hb
      replace sB := below_step sB hb
      clear hb
      have fk0 := (new_cells y3 (.int .i64 f) (.int .i64 (f + a1))).1
      have fk1 := (new_cells y3 (.int .i64 f) (.int .i64 (f + a1))).2
      replace s0 := cell_alloc s0 (.cells #[.int .i64 f, .int .i64 (f + a1)] 23)
      replace s1 := cell_alloc s1 (.cells #[.int .i64 f, .int .i64 (f + a1)] 23)
      replace fo0 := cell_alloc fo0 (.cells #[.int .i64 f, .int .i64 (f + a1)] 23)
      replace fo1 := cell_alloc fo1 (.cells #[.int .i64 f, .int .i64 (f + a1)] 23)
      replace fi0 := cell_alloc fi0 (.cells #[.int .i64 f, .int .i64 (f + a1)] 23)
      replace fi1 := cell_alloc fi1 (.cells #[.int .i64 f, .int .i64 (f + a1)] 23)
      replace sB := below_step sB (alloc1 y3 (.cells #[.int .i64 f, .int .i64 (f + a1)] 23))
      go_wp2_with fail
      refine (Out_any _ _ _ _).mono ?_
      rintro e y4 ⟨rfl, hb⟩
      rw [E4.out]
      simp only [tupS]
      replace s0 := cell_below s0 hb
      replace s1 := cell_below s1 hb
      replace fo0 := cell_below fo0 hb
      replace fo1 := cell_below fo1 hb
      replace fi0 := cell_below fi0 hb
      replace fi1 := cell_below fi1 hb
      replace fk0 := cell_below fk0 hb
      replace fk1 := cell_below fk1 hb
      replace sB := below_step sB hb
      clear hb
      have fp0 := (new_cells y4 (.int .i64 o1) (.int .i64 o2)).1
      have fp1 := (new_cells y4 (.int .i64 o1) (.int .i64 o2)).2
      replace s0 := cell_alloc s0 (.cells #[.int .i64 o1, .int .i64 o2] 23)
      replace s1 := cell_alloc s1 (.cells #[.int .i64 o1, .int .i64 o2] 23)
      replace fo0 := cell_alloc fo0 (.cells #[.int .i64 o1, .int .i64 o2] 23)
      replace fo1 := cell_alloc fo1 (.cells #[.int .i64 o1, .int .i64 o2] 23)
      replace fi0 := cell_alloc fi0 (.cells #[.int .i64 o1, .int .i64 o2] 23)
      replace fi1 := cell_alloc fi1 (.cells #[.int .i64 o1, .int .i64 o2] 23)
      replace fk0 := cell_alloc fk0 (.cells #[.int .i64 o1, .int .i64 o2] 23)
      replace fk1 := cell_alloc fk1 (.cells #[.int .i64 o1, .int .i64 o2] 23)
      replace sB := below_step sB (alloc1 y4 (.cells #[.int .i64 o1, .int .i64 o2] 23))
      go_wp2_with fail
      refine (In_any _ _ _ _).mono ?_
      rintro e y5 ⟨rfl, hb⟩
      rw [E5.out]
      simp only [tupS]
      replace s0 := cell_below s0 hb
      replace s1 := cell_below s1 hb
      replace fo0 := cell_below fo0 hb
      replace fo1 := cell_below fo1 hb
      replace fi0 := cell_below fi0 hb
      replace fi1 := cell_below fi1 hb
      replace fk0 := cell_below fk0 hb
      replace fk1 := cell_below fk1 hb
      replace fp0 := cell_below fp0 hb
      replace fp1 := cell_below fp1 hb
      replace sB := below_step sB hb
      clear hb
      have fr0 := (new_cells y5 (.int .i64 i1) (.int .i64 i2)).1
      have fr1 := (new_cells y5 (.int .i64 i1) (.int .i64 i2)).2
      replace s0 := cell_alloc s0 (.cells #[.int .i64 i1, .int .i64 i2] 23)
      replace s1 := cell_alloc s1 (.cells #[.int .i64 i1, .int .i64 i2] 23)
      replace fo0 := cell_alloc fo0 (.cells #[.int .i64 i1, .int .i64 i2] 23)
      replace fo1 := cell_alloc fo1 (.cells #[.int .i64 i1, .int .i64 i2] 23)
      replace fi0 := cell_alloc fi0 (.cells #[.int .i64 i1, .int .i64 i2] 23)
      replace fi1 := cell_alloc fi1 (.cells #[.int .i64 i1, .int .i64 i2] 23)
      replace fk0 := cell_alloc fk0 (.cells #[.int .i64 i1, .int .i64 i2] 23)
      replace fk1 := cell_alloc fk1 (.cells #[.int .i64 i1, .int .i64 i2] 23)
      replace fp0 := cell_alloc fp0 (.cells #[.int .i64 i1, .int .i64 i2] 23)
      replace fp1 := cell_alloc fp1 (.cells #[.int .i64 i1, .int .i64 i2] 23)
      replace sB := below_step sB (alloc1 y5 (.cells #[.int .i64 i1, .int .i64 i2] 23))
      go_wp2_with fail
      obtain ⟨V, hV⟩ : ∃ V, V = y5.alloc (.cells #[.int .i64 i1, .int .i64 i2] 23) := ⟨_, rfl⟩
      rw [← hV] at s0 s1 fo0 fo1 fi0 fi1 fk0 fk1 fp0 fp1 fr0 fr1 sB ⊢
      have HK0 := And.intro s0 (And.intro s1 (And.intro fo0 (And.intro fo1 (And.intro fi0 (And.intro fi1 (And.intro fk0 (And.intro fk1 (And.intro fp0 (And.intro fp1 (And.intro fr0 (And.intro fr1 (sB))))))))))))
      have HK := Lib.hid (show V.drew.cell? _ = _ ∧ V.drew.cell? _ = _ ∧ V.drew.cell? _ = _ ∧ V.drew.cell? _ = _ ∧ V.drew.cell? _ = _ ∧ V.drew.cell? _ = _ ∧ V.drew.cell? _ = _ ∧ V.drew.cell? _ = _ ∧ V.drew.cell? _ = _ ∧ V.drew.cell? _ = _ ∧ V.drew.cell? _ = _ ∧ V.drew.cell? _ = _ ∧ Below w.heap.size w V.drew from ⟨HK0.1, HK0.2.1, HK0.2.2.1, HK0.2.2.2.1, HK0.2.2.2.2.1, HK0.2.2.2.2.2.1, HK0.2.2.2.2.2.2.1, HK0.2.2.2.2.2.2.2.1, HK0.2.2.2.2.2.2.2.2.1, HK0.2.2.2.2.2.2.2.2.2.1, HK0.2.2.2.2.2.2.2.2.2.2.1, HK0.2.2.2.2.2.2.2.2.2.2.2.1, HK0.2.2.2.2.2.2.2.2.2.2.2.2.drew⟩)
      clear hV HK0 sB s0 s1 fo0 fo1 fi0 fi1 fk0 fk1 fp0 fp1 fr0 fr1
      refine wp_region_held_drew (S := (fun W' => W'.cell? ⟨w.heap.size, 0, none⟩ = some (.int .i64 a0) ∧ W'.cell? ⟨w.heap.size, 1, none⟩ = some (.int .i64 b0) ∧ W'.cell? ⟨y1.heap.size, 0, none⟩ = some (.int .i64 o1) ∧ W'.cell? ⟨y1.heap.size, 1, none⟩ = some (.int .i64 o2) ∧ W'.cell? ⟨y2.heap.size, 0, none⟩ = some (.int .i64 i1) ∧ W'.cell? ⟨y2.heap.size, 1, none⟩ = some (.int .i64 i2) ∧ W'.cell? ⟨y3.heap.size, 0, none⟩ = some (.int .i64 f) ∧ W'.cell? ⟨y3.heap.size, 1, none⟩ = some (.int .i64 (f + a1)) ∧ W'.cell? ⟨y4.heap.size, 0, none⟩ = some (.int .i64 o1) ∧ W'.cell? ⟨y4.heap.size, 1, none⟩ = some (.int .i64 o2) ∧ W'.cell? ⟨y5.heap.size, 0, none⟩ = some (.int .i64 i1) ∧ W'.cell? ⟨y5.heap.size, 1, none⟩ = some (.int .i64 i2) ∧ Below w.heap.size w W')) (by kernel_rfl) (by exact HK.out) (fun hHeld4 => ?_)
      refine wpAnyH_take (i := 0) (oi := { dst := some 78, op := _, type := _, pos := _, after := _, guard := _ }) (v := ?v4x0) rfl (by kernel_rfl) (by kernel_rfl) (by kernel_rfl) (fun _ _ _ h => h) (Or.inl ⟨by kernel_rfl, ?y4x0⟩) (by assumption) ?r4x0
      case y4x0 =>
        intro wS hSw
        (try dsimp only at hSw)
        first | (go_simp; done) | (go_simp; with_reducible rfl)
      (try simp only [Act.put, List.setIfInBounds_toArray, List.set_cons_zero, List.set_cons_succ])
      refine wpAnyH_take (i := 1) (oi := { dst := some 79, op := _, type := _, pos := _, after := _, guard := _ }) (v := ?v4x1) rfl (by kernel_rfl) (by kernel_rfl) (by kernel_rfl) (fun _ _ _ h => h) (Or.inl ⟨by kernel_rfl, ?y4x1⟩) (by assumption) ?r4x1
      case y4x1 =>
        intro wS hSw
        (try dsimp only at hSw)
        first | (go_simp; done) | (go_simp; with_reducible rfl)
      (try simp only [Act.put, List.setIfInBounds_toArray, List.set_cons_zero, List.set_cons_succ])
      refine wpAnyH_take (i := 2) (oi := { dst := some 80, op := _, type := _, pos := _, after := _, guard := _ }) (v := ?v4x2) rfl (by kernel_rfl) (by kernel_rfl) (by kernel_rfl) (fun _ _ _ h => h) (Or.inl ⟨by kernel_rfl, ?y4x2⟩) (by assumption) ?r4x2
      case y4x2 =>
        intro wS hSw
        (try dsimp only at hSw)
        first | (go_simp; done) | (go_simp; with_reducible rfl)
      (try simp only [Act.put, List.setIfInBounds_toArray, List.set_cons_zero, List.set_cons_succ])
      refine wpAnyH_take (i := 3) (oi := { dst := some 81, op := _, type := _, pos := _, after := _, guard := _ }) (v := ?v4x3) rfl (by kernel_rfl) (by kernel_rfl) (by kernel_rfl) (fun _ _ _ h => h) (Or.inl ⟨by kernel_rfl, ?y4x3⟩) (by assumption) ?r4x3
      case y4x3 =>
        intro wS hSw
        (try dsimp only at hSw)
        first | (go_simp; done) | (go_simp; with_reducible rfl)
      (try simp only [Act.put, List.setIfInBounds_toArray, List.set_cons_zero, List.set_cons_succ])
      refine wpAnyH_take (i := 4) (oi := { dst := some 82, op := _, type := _, pos := _, after := _, guard := _ }) (v := ?v4x4) rfl (by kernel_rfl) (by kernel_rfl) (by kernel_rfl) (fun _ _ _ h => h) (Or.inl ⟨by kernel_rfl, ?y4x4⟩) (by assumption) ?r4x4
      case y4x4 =>
        intro wS hSw
        (try dsimp only at hSw)
        first | (go_simp; done) | (go_simp; with_reducible rfl)
      (try simp only [Act.put, List.setIfInBounds_toArray, List.set_cons_zero, List.set_cons_succ])
      refine wpAnyH_take (i := 5) (oi := { dst := some 83, op := _, type := _, pos := _, after := _, guard := _ }) (v := ?v4x5) rfl (by kernel_rfl) (by kernel_rfl) (by kernel_rfl) (fun _ _ _ h => h) (Or.inl ⟨by kernel_rfl, ?y4x5⟩) (by assumption) ?r4x5
      case y4x5 =>
        intro wS hSw
        (try dsimp only at hSw)
        first | (go_simp; done) | (go_simp; with_reducible rfl)
      (try simp only [Act.put, List.setIfInBounds_toArray, List.set_cons_zero, List.set_cons_succ])
      refine wpAnyH_take (i := 6) (oi := { dst := some 84, op := _, type := _, pos := _, after := _, guard := _ }) (v := ?v4x6) rfl (by kernel_rfl) (by kernel_rfl) (by kernel_rfl) (fun _ _ _ h => h) (Or.inl ⟨by kernel_rfl, ?y4x6⟩) (by assumption) ?r4x6
      case y4x6 =>
        intro wS hSw
        (try dsimp only at hSw)
        first | (go_simp; done) | (go_simp; with_reducible rfl)
      (try simp only [Act.put, List.setIfInBounds_toArray, List.set_cons_zero, List.set_cons_succ])
      refine wpAnyH_take (i := 7) (oi := { dst := some 85, op := _, type := _, pos := _, after := _, guard := _ }) (v := ?v4x7) rfl (by kernel_rfl) (by kernel_rfl) (by kernel_rfl) (fun _ _ _ h => h) (Or.inl ⟨by kernel_rfl, ?y4x7⟩) (by assumption) ?r4x7
      case y4x7 =>
        intro wS hSw
        (try dsimp only at hSw)
        first | (go_simp; done) | (go_simp; with_reducible rfl)
      (try simp only [Act.put, List.setIfInBounds_toArray, List.set_cons_zero, List.set_cons_succ])
      refine wpAnyH_take (i := 8) (oi := { dst := some 86, op := _, type := _, pos := _, after := _, guard := _ }) (v := ?v4x8) rfl (by kernel_rfl) (by kernel_rfl) (by kernel_rfl) (fun _ _ _ h => h) (Or.inl ⟨by kernel_rfl, ?y4x8⟩) (by assumption) ?r4x8
      case y4x8 =>
        intro wS hSw
        (try dsimp only at hSw)
        first | (go_simp; done) | (go_simp; with_reducible rfl)
      (try simp only [Act.put, List.setIfInBounds_toArray, List.set_cons_zero, List.set_cons_succ])
      refine wpAnyH_take (i := 9) (oi := { dst := some 87, op := _, type := _, pos := _, after := _, guard := _ }) (v := ?v4x9) rfl (by kernel_rfl) (by kernel_rfl) (by kernel_rfl) (fun _ _ _ h => h) (Or.inl ⟨by kernel_rfl, ?y4x9⟩) (by assumption) ?r4x9
      case y4x9 =>
        intro wS hSw
        (try dsimp only at hSw)
        first | (go_simp; done) | (go_simp; with_reducible rfl)
      (try simp only [Act.put, List.setIfInBounds_toArray, List.set_cons_zero, List.set_cons_succ])
      refine wpAnyH_take (i := 10) (oi := { dst := some 88, op := _, type := _, pos := _, after := _, guard := _ }) (v := ?v4x10) rfl (by kernel_rfl) (by kernel_rfl) (by kernel_rfl) (fun _ _ _ h => h) (Or.inl ⟨by kernel_rfl, ?y4x10⟩) (by assumption) ?r4x10
      case y4x10 =>
        intro wS hSw
        (try dsimp only at hSw)
        first | (go_simp; done) | (go_simp; with_reducible rfl)
      (try simp only [Act.put, List.setIfInBounds_toArray, List.set_cons_zero, List.set_cons_succ])
      refine wpAnyH_take (i := 11) (oi := { dst := some 89, op := _, type := _, pos := _, after := _, guard := _ }) (v := ?v4x11) rfl (by kernel_rfl) (by kernel_rfl) (by kernel_rfl) (fun _ _ _ h => h) (Or.inl ⟨by kernel_rfl, ?y4x11⟩) (by assumption) ?r4x11
      case y4x11 =>
        intro wS hSw
        (try dsimp only at hSw)
        first | (go_simp; done) | (go_simp; with_reducible rfl)
      (try simp only [Act.put, List.setIfInBounds_toArray, List.set_cons_zero, List.set_cons_succ])
      refine wpAnyH_take (i := 12) (oi := { dst := some 90, op := _, type := _, pos := _, after := _, guard := _ }) (v := ?v4x12) rfl (by kernel_rfl) (by kernel_rfl) (by kernel_rfl) (fun _ _ _ h => h) (Or.inl ⟨by kernel_rfl, ?y4x12⟩) (by assumption) ?r4x12
      case y4x12 =>
        intro wS hSw
        (try dsimp only at hSw)
        first | (go_simp; done) | (go_simp; with_reducible rfl)
      (try simp only [Act.put, List.setIfInBounds_toArray, List.set_cons_zero, List.set_cons_succ])
      refine wpAnyH_take (i := 13) (oi := { dst := some 91, op := _, type := _, pos := _, after := _, guard := _ }) (v := ?v4x13) rfl (by kernel_rfl) (by kernel_rfl) (by kernel_rfl) (fun _ _ _ h => h) (Or.inl ⟨by kernel_rfl, ?y4x13⟩) (by assumption) ?r4x13
      case y4x13 =>
        intro wS hSw
        (try dsimp only at hSw)
        first | (go_simp; done) | (go_simp; with_reducible rfl)
      (try simp only [Act.put, List.setIfInBounds_toArray, List.set_cons_zero, List.set_cons_succ])
      refine wpAnyH_take (i := 14) (oi := { dst := some 92, op := _, type := _, pos := _, after := _, guard := _ }) (v := ?v4x14) rfl (by kernel_rfl) (by kernel_rfl) (by kernel_rfl) (fun _ _ _ h => h) (Or.inl ⟨by kernel_rfl, ?y4x14⟩) (by assumption) ?r4x14
      case y4x14 =>
        intro wS hSw
        (try dsimp only at hSw)
        first | (go_simp; done) | (go_simp; with_reducible rfl)
      (try simp only [Act.put, List.setIfInBounds_toArray, List.set_cons_zero, List.set_cons_succ])
      refine wpAnyH_take (i := 15) (oi := { dst := some 93, op := _, type := _, pos := _, after := _, guard := _ }) (v := ?v4x15) rfl (by kernel_rfl) (by kernel_rfl) (by kernel_rfl) (fun _ _ _ h => h) (Or.inl ⟨by kernel_rfl, ?y4x15⟩) (by assumption) ?r4x15
      case y4x15 =>
        intro wS hSw
        (try dsimp only at hSw)
        first | (go_simp; done) | (go_simp; with_reducible rfl)
      (try simp only [Act.put, List.setIfInBounds_toArray, List.set_cons_zero, List.set_cons_succ])
      refine wpAnyH_take (i := 16) (oi := { dst := some 94, op := _, type := _, pos := _, after := _, guard := _ }) (v := ?v4x16) rfl (by kernel_rfl) (by kernel_rfl) (by kernel_rfl) (fun _ _ _ h => h) (Or.inl ⟨by kernel_rfl, ?y4x16⟩) (by assumption) ?r4x16
      case y4x16 =>
        intro wS hSw
        (try dsimp only at hSw)
        first | (go_simp; done) | (go_simp; with_reducible rfl)
      (try simp only [Act.put, List.setIfInBounds_toArray, List.set_cons_zero, List.set_cons_succ])
      refine wpAnyH_take (i := 17) (oi := { dst := some 95, op := _, type := _, pos := _, after := _, guard := _ }) (v := ?v4x17) rfl (by kernel_rfl) (by kernel_rfl) (by kernel_rfl) (fun _ _ _ h => h) (Or.inl ⟨by kernel_rfl, ?y4x17⟩) (by assumption) ?r4x17
      case y4x17 =>
        intro wS hSw
        (try dsimp only at hSw)
        first | (go_simp; done) | (go_simp; with_reducible rfl)
      (try simp only [Act.put, List.setIfInBounds_toArray, List.set_cons_zero, List.set_cons_succ])
      refine wpAnyH_take (i := 19) (oi := { dst := some 97, op := _, type := _, pos := _, after := _, guard := _ }) (v := ?v4x18) rfl (by kernel_rfl) (by kernel_rfl) (by kernel_rfl) (fun _ _ _ h => h) (Or.inl ⟨by kernel_rfl, ?y4x18⟩) (by assumption) ?r4x18
      case y4x18 =>
        intro wS hSw
        (try dsimp only at hSw)
        first | (go_simp; done) | (go_simp; with_reducible rfl)
      (try simp only [Act.put, List.setIfInBounds_toArray, List.set_cons_zero, List.set_cons_succ])
      refine wpAnyH_ready (rs := [18]) (by kernel_rfl) (by simp) ?_
      refine AllReadyH.cons (o := { dst := some 96, op := _, type := _, pos := _, after := _, guard := _ }) rfl (fun K4x19 hK4x19 => ?_) AllReadyH.nil
      go_simp
      refine (empty_any _ _ _).mono ?_
      rintro e q12 ⟨rfl, hb⟩
      rw [HEO.out]
      have HS12 := Lib.hid (keep12 (w := V.drew) hb HK.out)
      clear hb
      go_simp
      refine hK4x19.out _ _ (by exact HS12.out) (fun hHeld4x19 => ?_)
      clear hK4x19 K4x19
      (try simp only [Act.put, List.setIfInBounds_toArray, List.set_cons_zero, List.set_cons_succ])
      refine wpAnyH_ready (rs := [20]) (by kernel_rfl) (by simp) ?_
      refine AllReadyH.cons (o := { dst := some 98, op := _, type := _, pos := _, after := _, guard := _ }) rfl (fun K4x20 hK4x20 => ?_) AllReadyH.nil
      go_simp
      refine (empty_any _ _ _).mono ?_
      rintro e q13 ⟨rfl, hb⟩
      rw [HES.out]
      have HS13 := Lib.hid (keep12 hb HS12.out)
      clear hb
      go_simp
      refine hK4x20.out _ _ (by exact HS13.out) (fun hHeld4x20 => ?_)
      clear hK4x20 K4x20
      (try simp only [Act.put, List.setIfInBounds_toArray, List.set_cons_zero, List.set_cons_succ])
      refine wpAnyH_take (i := 21) (oi := { dst := some 99, op := _, type := _, pos := _, after := _, guard := _ }) (v := ?v4x21) rfl (by kernel_rfl) (by kernel_rfl) (by kernel_rfl) (fun _ _ _ h => h) (Or.inl ⟨by kernel_rfl, ?y4x21⟩) (by assumption) ?r4x21
      case y4x21 =>
        intro wS hSw
        (try dsimp only at hSw)
        first | (go_simp; done) | (go_simp; with_reducible rfl)
      (try simp only [Act.put, List.setIfInBounds_toArray, List.set_cons_zero, List.set_cons_succ])
      refine wpAnyH_take (i := 22) (oi := { dst := some 100, op := _, type := _, pos := _, after := _, guard := _ }) (v := ?v4x22) rfl (by kernel_rfl) (by kernel_rfl) (by kernel_rfl) (fun _ _ _ h => h) (Or.inl ⟨by kernel_rfl, ?y4x22⟩) (by assumption) ?r4x22
      case y4x22 =>
        intro wS hSw
        (try dsimp only at hSw)
        first | (go_simp; done) | (go_simp; with_reducible rfl)
      (try simp only [Act.put, List.setIfInBounds_toArray, List.set_cons_zero, List.set_cons_succ])
      refine wpAnyH_done (by kernel_rfl) ?_ _
      (try dsimp only [Act.put])
      (try simp only [Act.put, List.setIfInBounds_toArray, List.set_cons_zero, List.set_cons_succ])
      go_wp2_with fail
      have HR := Lib.hid (show q13.drew.cell? _ = _ ∧ q13.drew.cell? _ = _ ∧ q13.drew.cell? _ = _ ∧ q13.drew.cell? _ = _ ∧ q13.drew.cell? _ = _ ∧ q13.drew.cell? _ = _ ∧ q13.drew.cell? _ = _ ∧ q13.drew.cell? _ = _ ∧ q13.drew.cell? _ = _ ∧ q13.drew.cell? _ = _ ∧ q13.drew.cell? _ = _ ∧ q13.drew.cell? _ = _ ∧ Below w.heap.size w q13.drew from ⟨HS13.out.1, HS13.out.2.1, HS13.out.2.2.1, HS13.out.2.2.2.1, HS13.out.2.2.2.2.1, HS13.out.2.2.2.2.2.1, HS13.out.2.2.2.2.2.2.1, HS13.out.2.2.2.2.2.2.2.1, HS13.out.2.2.2.2.2.2.2.2.1, HS13.out.2.2.2.2.2.2.2.2.2.1, HS13.out.2.2.2.2.2.2.2.2.2.2.1, HS13.out.2.2.2.2.2.2.2.2.2.2.2.1, HS13.out.2.2.2.2.2.2.2.2.2.2.2.2.drew⟩)
      refine wp_region_held_drew (S := (fun W' => W'.cell? ⟨w.heap.size, 0, none⟩ = some (.int .i64 a0) ∧ W'.cell? ⟨w.heap.size, 1, none⟩ = some (.int .i64 b0) ∧ W'.cell? ⟨y1.heap.size, 0, none⟩ = some (.int .i64 o1) ∧ W'.cell? ⟨y1.heap.size, 1, none⟩ = some (.int .i64 o2) ∧ W'.cell? ⟨y2.heap.size, 0, none⟩ = some (.int .i64 i1) ∧ W'.cell? ⟨y2.heap.size, 1, none⟩ = some (.int .i64 i2) ∧ W'.cell? ⟨y3.heap.size, 0, none⟩ = some (.int .i64 f) ∧ W'.cell? ⟨y3.heap.size, 1, none⟩ = some (.int .i64 (f + a1)) ∧ W'.cell? ⟨y4.heap.size, 0, none⟩ = some (.int .i64 o1) ∧ W'.cell? ⟨y4.heap.size, 1, none⟩ = some (.int .i64 o2) ∧ W'.cell? ⟨y5.heap.size, 0, none⟩ = some (.int .i64 i1) ∧ W'.cell? ⟨y5.heap.size, 1, none⟩ = some (.int .i64 i2) ∧ Below w.heap.size w W')) (by kernel_rfl) (by exact HR.out) (fun hHeld5 => ?_)
      refine wpAnyH_take (i := 0) (oi := { dst := some 101, op := _, type := _, pos := _, after := _, guard := _ }) (v := ?v5x0) rfl (by kernel_rfl) (by kernel_rfl) (by kernel_rfl) (fun _ _ _ h => h) (Or.inl ⟨by kernel_rfl, ?y5x0⟩) (by assumption) ?r5x0
      case y5x0 =>
        intro wS hSw
        (try dsimp only at hSw)
        first | (go_simp; done) | (go_simp; with_reducible rfl)
      (try simp only [Act.put, List.setIfInBounds_toArray, List.set_cons_zero, List.set_cons_succ])
      refine wpAnyH_take (i := 1) (oi := { dst := some 102, op := _, type := _, pos := _, after := _, guard := _ }) (v := ?v5x1) rfl (by kernel_rfl) (by kernel_rfl) (by kernel_rfl) (fun _ _ _ h => h) (Or.inl ⟨by kernel_rfl, ?y5x1⟩) (by assumption) ?r5x1
      case y5x1 =>
        intro wS hSw
        (try dsimp only at hSw)
        first | (go_simp; done) | (go_simp; with_reducible rfl)
      (try simp only [Act.put, List.setIfInBounds_toArray, List.set_cons_zero, List.set_cons_succ])
      refine wpAnyH_take (i := 3) (oi := { dst := some 104, op := _, type := _, pos := _, after := _, guard := _ }) (v := ?v5x2) rfl (by kernel_rfl) (by kernel_rfl) (by kernel_rfl) (fun _ _ _ h => h) (Or.inl ⟨by kernel_rfl, ?y5x2⟩) (by assumption) ?r5x2
      case y5x2 =>
        intro wS hSw
        (try dsimp only at hSw)
        first | (go_simp; done) | (go_simp; with_reducible rfl)
      (try simp only [Act.put, List.setIfInBounds_toArray, List.set_cons_zero, List.set_cons_succ])
      refine wpAnyH_take (i := 4) (oi := { dst := some 105, op := _, type := _, pos := _, after := _, guard := _ }) (v := ?v5x3) rfl (by kernel_rfl) (by kernel_rfl) (by kernel_rfl) (fun _ _ _ h => h) (Or.inl ⟨by kernel_rfl, ?y5x3⟩) (by assumption) ?r5x3
      case y5x3 =>
        intro wS hSw
        (try dsimp only at hSw)
        first | (go_simp; done) | (go_simp; with_reducible rfl)
      (try simp only [Act.put, List.setIfInBounds_toArray, List.set_cons_zero, List.set_cons_succ])
      refine wpAnyH_ready (rs := [2]) (by kernel_rfl) (by simp) ?_
      refine AllReadyH.cons (o := { dst := some 103, op := _, type := _, pos := _, after := _, guard := _ }) rfl (fun K5x4 hK5x4 => ?_) AllReadyH.nil
      go_simp
      refine (has_any _ _ _ _).mono ?_
      rintro e q14 ⟨rfl, hb⟩
      rw [HHO.out]
      have HS14 := Lib.hid (keep12 (w := q13.drew) hb HR.out)
      clear hb
      go_simp
      refine hK5x4.out _ _ (by exact HS14.out) (fun hHeld5x4 => ?_)
      clear hK5x4 K5x4
      (try simp only [Act.put, List.setIfInBounds_toArray, List.set_cons_zero, List.set_cons_succ])
      refine wpAnyH_ready (rs := [5]) (by kernel_rfl) (by simp) ?_
      refine AllReadyH.cons (o := { dst := some 106, op := _, type := _, pos := _, after := _, guard := _ }) rfl (fun K5x5 hK5x5 => ?_) AllReadyH.nil
      go_simp
      refine (and_any _ _ _ _ _).mono ?_
      rintro e q15 ⟨rfl, hb⟩
      rw [HBS.out]
      simp only [spanV]
      have HS15 := Lib.hid (keep12 hb HS14.out)
      clear hb
      go_simp
      refine hK5x5.out _ _ (by exact HS15.out) (fun hHeld5x5 => ?_)
      clear hK5x5 K5x5
      (try simp only [Act.put, List.setIfInBounds_toArray, List.set_cons_zero, List.set_cons_succ])
      refine wpAnyH_ready (rs := [6]) (by kernel_rfl) (by simp) ?_
      refine AllReadyH.cons (o := { dst := some 107, op := _, type := _, pos := _, after := _, guard := _ }) rfl (fun K5x6 hK5x6 => ?_) AllReadyH.nil
      go_simp
      refine (empty_any _ _ _).mono ?_
      rintro e q16 ⟨rfl, hb⟩
      rw [HEC.out]
      have HS16 := Lib.hid (keep12 hb HS15.out)
      clear hb
      go_simp
      refine hK5x6.out _ _ (by exact HS16.out) (fun hHeld5x6 => ?_)
      clear hK5x6 K5x6
      (try simp only [Act.put, List.setIfInBounds_toArray, List.set_cons_zero, List.set_cons_succ])
      refine wpAnyH_take (i := 7) (oi := { dst := some 108, op := _, type := _, pos := _, after := _, guard := _ }) (v := ?v5x7) rfl (by kernel_rfl) (by kernel_rfl) (by kernel_rfl) (fun _ _ _ h => h) (Or.inl ⟨by kernel_rfl, ?y5x7⟩) (by assumption) ?r5x7
      case y5x7 =>
        intro wS hSw
        (try dsimp only at hSw)
        first | (go_simp; done) | (go_simp; with_reducible rfl)
      (try simp only [Act.put, List.setIfInBounds_toArray, List.set_cons_zero, List.set_cons_succ])
      refine wpAnyH_take (i := 8) (oi := { dst := some 109, op := _, type := _, pos := _, after := _, guard := _ }) (v := ?v5x8) rfl (by kernel_rfl) (by kernel_rfl) (by kernel_rfl) (fun _ _ _ h => h) (Or.inl ⟨by kernel_rfl, ?y5x8⟩) (by assumption) ?r5x8
      case y5x8 =>
        intro wS hSw
        (try dsimp only at hSw)
        first | (go_simp; done) | (go_simp; with_reducible rfl)
      (try simp only [Act.put, List.setIfInBounds_toArray, List.set_cons_zero, List.set_cons_succ])
      refine wpAnyH_done (by kernel_rfl) ?_ _
      (try dsimp only [Act.put])
      (try simp only [Act.put, List.setIfInBounds_toArray, List.set_cons_zero, List.set_cons_succ])
      go_wp2_with fail
      have HR2 := Lib.hid (show q16.drew.cell? _ = _ ∧ q16.drew.cell? _ = _ ∧ q16.drew.cell? _ = _ ∧ q16.drew.cell? _ = _ ∧ q16.drew.cell? _ = _ ∧ q16.drew.cell? _ = _ ∧ q16.drew.cell? _ = _ ∧ q16.drew.cell? _ = _ ∧ q16.drew.cell? _ = _ ∧ q16.drew.cell? _ = _ ∧ q16.drew.cell? _ = _ ∧ q16.drew.cell? _ = _ ∧ Below w.heap.size w q16.drew from ⟨HS16.out.1, HS16.out.2.1, HS16.out.2.2.1, HS16.out.2.2.2.1, HS16.out.2.2.2.2.1, HS16.out.2.2.2.2.2.1, HS16.out.2.2.2.2.2.2.1, HS16.out.2.2.2.2.2.2.2.1, HS16.out.2.2.2.2.2.2.2.2.1, HS16.out.2.2.2.2.2.2.2.2.2.1, HS16.out.2.2.2.2.2.2.2.2.2.2.1, HS16.out.2.2.2.2.2.2.2.2.2.2.2.1, HS16.out.2.2.2.2.2.2.2.2.2.2.2.2.drew⟩)
      cases hhi : hasB i1 i2 a2
      · have HHI := Lib.hid hhi
        have hne := F7.out hhi
        clear hhi
        by_cases hz : c1 = f
        · subst hz
          have hz2 : ¬ c2 = c1 + a1 := fun h => hne ⟨rfl, h⟩
          clear hne
          refine wp_region_held_drew (S := (fun W' => W'.cell? ⟨w.heap.size, 0, none⟩ = some (.int .i64 a0) ∧ W'.cell? ⟨w.heap.size, 1, none⟩ = some (.int .i64 b0) ∧ W'.cell? ⟨y1.heap.size, 0, none⟩ = some (.int .i64 o1) ∧ W'.cell? ⟨y1.heap.size, 1, none⟩ = some (.int .i64 o2) ∧ W'.cell? ⟨y2.heap.size, 0, none⟩ = some (.int .i64 i1) ∧ W'.cell? ⟨y2.heap.size, 1, none⟩ = some (.int .i64 i2) ∧ W'.cell? ⟨y3.heap.size, 0, none⟩ = some (.int .i64 c1) ∧ W'.cell? ⟨y3.heap.size, 1, none⟩ = some (.int .i64 (c1 + a1)) ∧ W'.cell? ⟨y4.heap.size, 0, none⟩ = some (.int .i64 o1) ∧ W'.cell? ⟨y4.heap.size, 1, none⟩ = some (.int .i64 o2) ∧ W'.cell? ⟨y5.heap.size, 0, none⟩ = some (.int .i64 i1) ∧ W'.cell? ⟨y5.heap.size, 1, none⟩ = some (.int .i64 i2) ∧ Below w.heap.size w W')) (by kernel_rfl) (by exact HR2.out) (fun hHeld6 => ?_)
          refine wpAnyH_take (i := 0) (oi := { dst := some 110, op := _, type := _, pos := _, after := _, guard := _ }) (v := ?v6x0) rfl (by kernel_rfl) (by kernel_rfl) (by kernel_rfl) (fun _ _ _ h => h) (Or.inl ⟨by kernel_rfl, ?y6x0⟩) (by assumption) ?r6x0
          case y6x0 =>
            intro wS hSw
            (try dsimp only at hSw)
            first | (go_simp; done) | (go_simp; with_reducible rfl)
          (try simp only [Act.put, List.setIfInBounds_toArray, List.set_cons_zero, List.set_cons_succ])
          refine wpAnyH_take (i := 1) (oi := { dst := some 111, op := _, type := _, pos := _, after := _, guard := _ }) (v := ?v6x1) rfl (by kernel_rfl) (by kernel_rfl) (by kernel_rfl) (fun _ _ _ h => h) (Or.inl ⟨by kernel_rfl, ?y6x1⟩) (by assumption) ?r6x1
          case y6x1 =>
            intro wS hSw
            (try dsimp only at hSw)
            first | (go_simp; done) | (go_simp; with_reducible rfl)
          (try simp only [Act.put, List.setIfInBounds_toArray, List.set_cons_zero, List.set_cons_succ])
          refine wpAnyH_take (i := 3) (oi := { dst := some 113, op := _, type := _, pos := _, after := _, guard := _ }) (v := ?v6x2) rfl (by kernel_rfl) (by kernel_rfl) (by kernel_rfl) (fun _ _ _ h => h) (Or.inl ⟨by kernel_rfl, ?y6x2⟩) (by assumption) ?r6x2
          case y6x2 =>
            intro wS hSw
            (try dsimp only at hSw)
            first | (go_simp; done) | (go_simp; with_reducible rfl)
          (try simp only [Act.put, List.setIfInBounds_toArray, List.set_cons_zero, List.set_cons_succ])
          refine wpAnyH_ready (rs := [2]) (by kernel_rfl) (by simp) ?_
          refine AllReadyH.cons (o := { dst := some 112, op := _, type := _, pos := _, after := _, guard := _ }) rfl (fun K6x3 hK6x3 => ?_) AllReadyH.nil
          go_simp
          refine (has_any _ _ _ _).mono ?_
          rintro e q17 ⟨rfl, hb⟩
          rw [HHI.out]
          have HS17 := Lib.hid (keep12 (w := q16.drew) hb HR2.out)
          clear hb
          go_simp
          refine hK6x3.out _ _ (by exact HS17.out) (fun hHeld6x3 => ?_)
          clear hK6x3 K6x3
          (try simp only [Act.put, List.setIfInBounds_toArray, List.set_cons_zero, List.set_cons_succ])
          refine wpAnyH_ready (rs := [4]) (by kernel_rfl) (by simp) ?_
          refine AllReadyH.cons (o := { dst := some 114, op := _, type := _, pos := _, after := _, guard := _ }) rfl (fun K6x4 hK6x4 => ?_) AllReadyH.nil
          go_simp
          refine (empty_any _ _ _).mono ?_
          rintro e q18 ⟨rfl, hb⟩
          rw [HES.out]
          have HS18 := Lib.hid (keep12 hb HS17.out)
          clear hb
          go_simp
          refine hK6x4.out _ _ (by exact HS18.out) (fun hHeld6x4 => ?_)
          clear hK6x4 K6x4
          (try simp only [Act.put, List.setIfInBounds_toArray, List.set_cons_zero, List.set_cons_succ])
          refine wpAnyH_take (i := 5) (oi := { dst := some 115, op := _, type := _, pos := _, after := _, guard := _ }) (v := ?v6x5) rfl (by kernel_rfl) (by kernel_rfl) (by kernel_rfl) (fun _ _ _ h => h) (Or.inl ⟨by kernel_rfl, ?y6x5⟩) (by assumption) ?r6x5
          case y6x5 =>
            intro wS hSw
            (try dsimp only at hSw)
            first | (go_simp; done) | (go_simp; with_reducible rfl)
          (try simp only [Act.put, List.setIfInBounds_toArray, List.set_cons_zero, List.set_cons_succ])
          refine wpAnyH_take (i := 6) (oi := { dst := some 116, op := _, type := _, pos := _, after := _, guard := _ }) (v := ?v6x6) rfl (by kernel_rfl) (by kernel_rfl) (by kernel_rfl) (fun _ _ _ h => h) (Or.inl ⟨by kernel_rfl, ?y6x6⟩) (by assumption) ?r6x6
          case y6x6 =>
            intro wS hSw
            (try dsimp only at hSw)
            first | (go_simp; done) | (go_simp; with_reducible rfl)
          (try simp only [Act.put, List.setIfInBounds_toArray, List.set_cons_zero, List.set_cons_succ])
          refine wpAnyH_take (i := 7) (oi := { dst := some 117, op := _, type := _, pos := _, after := _, guard := _ }) (v := ?v6x7) rfl (by kernel_rfl) (by kernel_rfl) (by kernel_rfl) (fun _ _ _ h => h) (Or.inl ⟨by kernel_rfl, ?y6x7⟩) (by assumption) ?r6x7
          case y6x7 =>
            intro wS hSw
            (try dsimp only at hSw)
            first | (go_simp; done) | (go_simp; with_reducible rfl)
          (try simp only [Act.put, List.setIfInBounds_toArray, List.set_cons_zero, List.set_cons_succ])
          refine wpAnyH_take (i := 8) (oi := { dst := some 118, op := _, type := _, pos := _, after := _, guard := _ }) (v := ?v6x8) rfl (by kernel_rfl) (by kernel_rfl) (by kernel_rfl) (fun _ _ _ h => h) (Or.inl ⟨by kernel_rfl, ?y6x8⟩) (by assumption) ?r6x8
          case y6x8 =>
            intro wS hSw
            (try dsimp only at hSw)
            first | (go_simp; done) | (go_simp; with_reducible rfl)
          (try simp only [Act.put, List.setIfInBounds_toArray, List.set_cons_zero, List.set_cons_succ])
          refine wpAnyH_take (i := 10) (oi := { dst := some 120, op := _, type := _, pos := _, after := _, guard := _ }) (v := ?v6x9) rfl (by kernel_rfl) (by kernel_rfl) (by kernel_rfl) (fun _ _ _ h => h) (Or.inl ⟨by kernel_rfl, ?y6x9⟩) (by assumption) ?r6x9
          case y6x9 =>
            intro wS hSw
            (try dsimp only at hSw)
            first | (go_simp; done) | (go_simp; with_reducible rfl)
          (try simp only [Act.put, List.setIfInBounds_toArray, List.set_cons_zero, List.set_cons_succ])
          refine wpAnyH_ready (rs := [9]) (by kernel_rfl) (by simp) ?_
          refine AllReadyH.cons (o := { dst := some 119, op := _, type := _, pos := _, after := _, guard := _ }) rfl (fun K6x10 hK6x10 => ?_) AllReadyH.nil
          go_simp
          refine (and_any _ _ _ _ _).mono ?_
          rintro e q19 ⟨rfl, hb⟩
          rw [HBS.out]
          simp only [spanV]
          have HS19 := Lib.hid (keep12 hb HS18.out)
          clear hb
          go_simp
          refine hK6x10.out _ _ (by exact HS19.out) (fun hHeld6x10 => ?_)
          clear hK6x10 K6x10
          (try simp only [Act.put, List.setIfInBounds_toArray, List.set_cons_zero, List.set_cons_succ])
          refine wpAnyH_take (i := 11) (oi := { dst := some 121, op := _, type := _, pos := _, after := _, guard := _ }) (v := ?v6x11) rfl (by kernel_rfl) (by kernel_rfl) (by kernel_rfl) (fun _ _ _ h => h) (Or.inl ⟨by kernel_rfl, ?y6x11⟩) (by assumption) ?r6x11
          case y6x11 =>
            intro wS hSw
            (try dsimp only at hSw)
            first | (go_simp; done) | (go_simp; with_reducible rfl)
          (try simp only [Act.put, List.setIfInBounds_toArray, List.set_cons_zero, List.set_cons_succ])
          refine wpAnyH_take (i := 12) (oi := { dst := some 122, op := _, type := _, pos := _, after := _, guard := _ }) (v := ?v6x12) rfl (by kernel_rfl) (by kernel_rfl) (by kernel_rfl) (fun _ _ _ h => h) (Or.inl ⟨by kernel_rfl, ?y6x12⟩) (by assumption) ?r6x12
          case y6x12 =>
            intro wS hSw
            (try dsimp only at hSw)
            first | (go_simp; done) | (go_simp; with_reducible rfl)
          (try simp only [Act.put, List.setIfInBounds_toArray, List.set_cons_zero, List.set_cons_succ])
          refine wpAnyH_take (i := 13) (oi := { dst := some 123, op := _, type := _, pos := _, after := _, guard := _ }) (v := ?v6x13) rfl (by kernel_rfl) (by kernel_rfl) (by kernel_rfl) (fun _ _ _ h => h) (Or.inl ⟨by kernel_rfl, ?y6x13⟩) (by assumption) ?r6x13
          case y6x13 =>
            intro wS hSw
            (try dsimp only at hSw)
            first | (go_simp; done) | (go_simp; with_reducible rfl)
          (try simp only [Act.put, List.setIfInBounds_toArray, List.set_cons_zero, List.set_cons_succ])
          refine wpAnyH_take (i := 14) (oi := { dst := some 124, op := _, type := _, pos := _, after := _, guard := _ }) (v := ?v6x14) rfl (by kernel_rfl) (by kernel_rfl) (by kernel_rfl) (fun _ _ _ h => h) (Or.inl ⟨by kernel_rfl, ?y6x14⟩) (by assumption) ?r6x14
          case y6x14 =>
            intro wS hSw
            (try dsimp only at hSw)
            first | (go_simp; done) | (go_simp; with_reducible rfl)
          (try simp only [Act.put, List.setIfInBounds_toArray, List.set_cons_zero, List.set_cons_succ])
          refine wpAnyH_take (i := 15) (oi := { dst := some 125, op := _, type := _, pos := _, after := _, guard := _ }) (v := ?v6x15) rfl (by kernel_rfl) (by kernel_rfl) (by kernel_rfl) (fun _ _ _ h => h) (Or.inl ⟨by kernel_rfl, ?y6x15⟩) (by assumption) ?r6x15
          case y6x15 =>
            intro wS hSw
            (try dsimp only at hSw)
            first | (go_simp; done) | (go_simp; with_reducible rfl)
          (try simp only [Act.put, List.setIfInBounds_toArray, List.set_cons_zero, List.set_cons_succ])
          refine wpAnyH_take (i := 16) (oi := { dst := some 126, op := _, type := _, pos := _, after := _, guard := _ }) (v := ?v6x16) rfl (by kernel_rfl) (by kernel_rfl) (by kernel_rfl) (fun _ _ _ h => h) (Or.inl ⟨by kernel_rfl, ?y6x16⟩) (by assumption) ?r6x16
          case y6x16 =>
            intro wS hSw
            (try dsimp only at hSw)
            first | (go_simp; done) | (go_simp; with_reducible rfl)
          (try simp only [Act.put, List.setIfInBounds_toArray, List.set_cons_zero, List.set_cons_succ])
          refine wpAnyH_take (i := 18) (oi := { dst := some 128, op := _, type := _, pos := _, after := _, guard := _ }) (v := ?v6x17) rfl (by kernel_rfl) (by kernel_rfl) (by kernel_rfl) (fun _ _ _ h => h) (Or.inl ⟨by kernel_rfl, ?y6x17⟩) (by assumption) ?r6x17
          case y6x17 =>
            intro wS hSw
            (try dsimp only at hSw)
            first | (go_simp; done) | (go_simp; with_reducible rfl)
          (try simp only [Act.put, List.setIfInBounds_toArray, List.set_cons_zero, List.set_cons_succ])
          refine wpAnyH_ready (rs := [17]) (by kernel_rfl) (by simp) ?_
          refine AllReadyH.cons (o := { dst := some 127, op := _, type := _, pos := _, after := _, guard := _ }) rfl (fun K6x18 hK6x18 => ?_) AllReadyH.nil
          go_simp
          refine (and_any _ _ _ _ _).mono ?_
          rintro e q20 ⟨rfl, hb⟩
          rw [HIS.out]
          simp only [spanV]
          have HS20 := Lib.hid (keep12 hb HS19.out)
          clear hb
          go_simp
          refine hK6x18.out _ _ (by exact HS20.out) (fun hHeld6x18 => ?_)
          clear hK6x18 K6x18
          (try simp only [Act.put, List.setIfInBounds_toArray, List.set_cons_zero, List.set_cons_succ])
          refine wpAnyH_take (i := 19) (oi := { dst := some 129, op := _, type := _, pos := _, after := _, guard := _ }) (v := ?v6x19) rfl (by kernel_rfl) (by kernel_rfl) (by kernel_rfl) (fun _ _ _ h => h) (Or.inl ⟨by kernel_rfl, ?y6x19⟩) (by assumption) ?r6x19
          case y6x19 =>
            intro wS hSw
            (try dsimp only at hSw)
            first | (go_simp; done) | (go_simp; with_reducible rfl)
          (try simp only [Act.put, List.setIfInBounds_toArray, List.set_cons_zero, List.set_cons_succ])
          refine wpAnyH_take (i := 20) (oi := { dst := some 130, op := _, type := _, pos := _, after := _, guard := _ }) (v := ?v6x20) rfl (by kernel_rfl) (by kernel_rfl) (by kernel_rfl) (fun _ _ _ h => h) (Or.inl ⟨by kernel_rfl, ?y6x20⟩) (by assumption) ?r6x20
          case y6x20 =>
            intro wS hSw
            (try dsimp only at hSw)
            first | (go_simp; done) | (go_simp; with_reducible rfl)
          (try simp only [Act.put, List.setIfInBounds_toArray, List.set_cons_zero, List.set_cons_succ])
          refine wpAnyH_take (i := 21) (oi := { dst := some 131, op := _, type := _, pos := _, after := _, guard := _ }) (v := ?v6x21) rfl (by kernel_rfl) (by kernel_rfl) (by kernel_rfl) (fun _ _ _ h => h) (Or.inl ⟨by kernel_rfl, ?y6x21⟩) (by assumption) ?r6x21
          case y6x21 =>
            intro wS hSw
            (try dsimp only at hSw)
            first | (go_simp; done) | (go_simp; with_reducible rfl)
          (try simp only [Act.put, List.setIfInBounds_toArray, List.set_cons_zero, List.set_cons_succ])
          refine wpAnyH_take (i := 22) (oi := { dst := some 132, op := _, type := _, pos := _, after := _, guard := _ }) (v := ?v6x22) rfl (by kernel_rfl) (by kernel_rfl) (by kernel_rfl) (fun _ _ _ h => h) (Or.inl ⟨by kernel_rfl, ?y6x22⟩) (by assumption) ?r6x22
          case y6x22 =>
            intro wS hSw
            (try dsimp only at hSw)
            first | (go_simp; done) | (go_simp; with_reducible rfl)
          (try simp only [Act.put, List.setIfInBounds_toArray, List.set_cons_zero, List.set_cons_succ])
          refine wpAnyH_take (i := 23) (oi := { dst := some 133, op := _, type := _, pos := _, after := _, guard := _ }) (v := ?v6x23) rfl (by kernel_rfl) (by kernel_rfl) (by kernel_rfl) (fun _ _ _ h => h) (Or.inl ⟨by kernel_rfl, ?y6x23⟩) (by assumption) ?r6x23
          case y6x23 =>
            intro wS hSw
            (try dsimp only at hSw)
            first | (go_simp; done) | (go_simp; with_reducible rfl)
          (try simp only [Act.put, List.setIfInBounds_toArray, List.set_cons_zero, List.set_cons_succ])
          refine wpAnyH_take (i := 25) (oi := { dst := some 135, op := _, type := _, pos := _, after := _, guard := _ }) (v := ?v6x24) rfl (by kernel_rfl) (by kernel_rfl) (by kernel_rfl) (fun _ _ _ h => h) (Or.inl ⟨by kernel_rfl, ?y6x24⟩) (by assumption) ?r6x24
          case y6x24 =>
            intro wS hSw
            (try dsimp only at hSw)
            first | (go_simp; done) | (go_simp; with_reducible rfl)
          (try simp only [Act.put, List.setIfInBounds_toArray, List.set_cons_zero, List.set_cons_succ])
          refine wpAnyH_take (i := 26) (oi := { dst := some 136, op := _, type := _, pos := _, after := _, guard := _ }) (v := ?v6x25) rfl (by kernel_rfl) (by kernel_rfl) (by kernel_rfl) (fun _ _ _ h => h) (Or.inl ⟨by kernel_rfl, ?y6x25⟩) (by assumption) ?r6x25
          case y6x25 =>
            intro wS hSw
            (try dsimp only at hSw)
            first | (go_simp; done) | (go_simp; with_reducible rfl)
          (try simp only [Act.put, List.setIfInBounds_toArray, List.set_cons_zero, List.set_cons_succ])
          refine wpAnyH_ready (rs := [24]) (by kernel_rfl) (by simp) ?_
          refine AllReadyH.cons (o := { dst := some 134, op := _, type := _, pos := _, after := _, guard := _ }) rfl (fun K6x26 hK6x26 => ?_) AllReadyH.nil
          go_simp
          refine (and_any _ _ _ _ _).mono ?_
          rintro e q21 ⟨rfl, hb⟩
          rw [HSO.out]
          simp only [spanV]
          have HS21 := Lib.hid (keep12 hb HS20.out)
          clear hb
          go_simp
          refine hK6x26.out _ _ (by exact HS21.out) (fun hHeld6x26 => ?_)
          clear hK6x26 K6x26
          (try simp only [Act.put, List.setIfInBounds_toArray, List.set_cons_zero, List.set_cons_succ])
          refine wpAnyH_ready (rs := [27]) (by kernel_rfl) (by simp) ?_
          refine AllReadyH.cons (o := { dst := some 137, op := _, type := _, pos := _, after := _, guard := _ }) rfl (fun K6x27 hK6x27 => ?_) AllReadyH.nil
          go_simp
          refine (and_any _ _ _ _ _).mono ?_
          rintro e q22 ⟨rfl, hb⟩
          rw [HSS.out]
          simp only [spanV]
          have HS22 := Lib.hid (keep12 hb HS21.out)
          clear hb
          go_simp
          refine hK6x27.out _ _ (by exact HS22.out) (fun hHeld6x27 => ?_)
          clear hK6x27 K6x27
          (try simp only [Act.put, List.setIfInBounds_toArray, List.set_cons_zero, List.set_cons_succ])
          refine wpAnyH_take (i := 28) (oi := { dst := some 138, op := _, type := _, pos := _, after := _, guard := _ }) (v := ?v6x28) rfl (by kernel_rfl) (by kernel_rfl) (by kernel_rfl) (fun _ _ _ h => h) (Or.inl ⟨by kernel_rfl, ?y6x28⟩) (by assumption) ?r6x28
          case y6x28 =>
            intro wS hSw
            (try dsimp only at hSw)
            first | (go_simp; done) | (go_simp; with_reducible rfl)
          (try simp only [Act.put, List.setIfInBounds_toArray, List.set_cons_zero, List.set_cons_succ])
          refine wpAnyH_take (i := 29) (oi := { dst := some 139, op := _, type := _, pos := _, after := _, guard := _ }) (v := ?v6x29) rfl (by kernel_rfl) (by kernel_rfl) (by kernel_rfl) (fun _ _ _ h => h) (Or.inl ⟨by kernel_rfl, ?y6x29⟩) (by assumption) ?r6x29
          case y6x29 =>
            intro wS hSw
            (try dsimp only at hSw)
            first | (go_simp; done) | (go_simp; with_reducible rfl)
          (try simp only [Act.put, List.setIfInBounds_toArray, List.set_cons_zero, List.set_cons_succ])
          refine wpAnyH_take (i := 30) (oi := { dst := some 140, op := _, type := _, pos := _, after := _, guard := _ }) (v := ?v6x30) rfl (by kernel_rfl) (by kernel_rfl) (by kernel_rfl) (fun _ _ _ h => h) (Or.inl ⟨by kernel_rfl, ?y6x30⟩) (by assumption) ?r6x30
          case y6x30 =>
            intro wS hSw
            (try dsimp only at hSw)
            first | (go_simp; done) | (go_simp; with_reducible rfl)
          (try simp only [Act.put, List.setIfInBounds_toArray, List.set_cons_zero, List.set_cons_succ])
          refine wpAnyH_ready (rs := [31]) (by kernel_rfl) (by simp) ?_
          refine AllReadyH.cons (o := { dst := some 141, op := _, type := _, pos := _, after := _, guard := _ }) rfl (fun K6x31 hK6x31 => ?_) AllReadyH.nil
          go_simp
          refine (wakes_any _).mono ?_
          rintro e q23 ⟨rfl, hb⟩
          have HS23 := Lib.hid (keep12 hb HS22.out)
          clear hb
          go_simp
          refine hK6x31.out _ _ (by exact HS23.out) (fun hHeld6x31 => ?_)
          clear hK6x31 K6x31
          (try simp only [Act.put, List.setIfInBounds_toArray, List.set_cons_zero, List.set_cons_succ])
          refine wpAnyH_take (i := 32) (oi := { dst := some 142, op := _, type := _, pos := _, after := _, guard := _ }) (v := ?v6x32) rfl (by kernel_rfl) (by kernel_rfl) (by kernel_rfl) (fun _ _ _ h => h) (Or.inl ⟨by kernel_rfl, ?y6x32⟩) (by assumption) ?r6x32
          case y6x32 =>
            intro wS hSw
            (try dsimp only at hSw)
            first | (go_simp; done) | (go_simp; with_reducible rfl)
          (try simp only [Act.put, List.setIfInBounds_toArray, List.set_cons_zero, List.set_cons_succ])
          refine wpAnyH_take (i := 33) (oi := { dst := some 6, op := _, type := _, pos := _, after := _, guard := _ }) (v := ?v6x33) rfl (by kernel_rfl) (by kernel_rfl) (by kernel_rfl) (fun _ _ _ h => h) (Or.inl ⟨by kernel_rfl, ?y6x33⟩) (by assumption) ?r6x33
          case y6x33 =>
            intro wS hSw
            (try dsimp only at hSw)
            first | (go_simp; done) | (go_simp; with_reducible rfl)
          (try simp only [Act.put, List.setIfInBounds_toArray, List.set_cons_zero, List.set_cons_succ])
          refine wpAnyH_done (by kernel_rfl) ?_ _
          (try dsimp only [Act.put])
          (try simp only [Act.put, List.setIfInBounds_toArray, List.set_cons_zero, List.set_cons_succ])
          go_wp2_with fail
          go_ret
          exact ⟨rfl, HS23.out.2.2.2.2.2.2.2.2.2.2.2.2⟩
        · clear hne
          refine wp_region_held_drew (S := (fun W' => W'.cell? ⟨w.heap.size, 0, none⟩ = some (.int .i64 a0) ∧ W'.cell? ⟨w.heap.size, 1, none⟩ = some (.int .i64 b0) ∧ W'.cell? ⟨y1.heap.size, 0, none⟩ = some (.int .i64 o1) ∧ W'.cell? ⟨y1.heap.size, 1, none⟩ = some (.int .i64 o2) ∧ W'.cell? ⟨y2.heap.size, 0, none⟩ = some (.int .i64 i1) ∧ W'.cell? ⟨y2.heap.size, 1, none⟩ = some (.int .i64 i2) ∧ W'.cell? ⟨y3.heap.size, 0, none⟩ = some (.int .i64 f) ∧ W'.cell? ⟨y3.heap.size, 1, none⟩ = some (.int .i64 (f + a1)) ∧ W'.cell? ⟨y4.heap.size, 0, none⟩ = some (.int .i64 o1) ∧ W'.cell? ⟨y4.heap.size, 1, none⟩ = some (.int .i64 o2) ∧ W'.cell? ⟨y5.heap.size, 0, none⟩ = some (.int .i64 i1) ∧ W'.cell? ⟨y5.heap.size, 1, none⟩ = some (.int .i64 i2) ∧ Below w.heap.size w W')) (by kernel_rfl) (by exact HR2.out) (fun hHeld7 => ?_)
          refine wpAnyH_take (i := 0) (oi := { dst := some 110, op := _, type := _, pos := _, after := _, guard := _ }) (v := ?v7x0) rfl (by kernel_rfl) (by kernel_rfl) (by kernel_rfl) (fun _ _ _ h => h) (Or.inl ⟨by kernel_rfl, ?y7x0⟩) (by assumption) ?r7x0
          case y7x0 =>
            intro wS hSw
            (try dsimp only at hSw)
            first | (go_simp; done) | (go_simp; with_reducible rfl)
          (try simp only [Act.put, List.setIfInBounds_toArray, List.set_cons_zero, List.set_cons_succ])
          refine wpAnyH_take (i := 1) (oi := { dst := some 111, op := _, type := _, pos := _, after := _, guard := _ }) (v := ?v7x1) rfl (by kernel_rfl) (by kernel_rfl) (by kernel_rfl) (fun _ _ _ h => h) (Or.inl ⟨by kernel_rfl, ?y7x1⟩) (by assumption) ?r7x1
          case y7x1 =>
            intro wS hSw
            (try dsimp only at hSw)
            first | (go_simp; done) | (go_simp; with_reducible rfl)
          (try simp only [Act.put, List.setIfInBounds_toArray, List.set_cons_zero, List.set_cons_succ])
          refine wpAnyH_take (i := 3) (oi := { dst := some 113, op := _, type := _, pos := _, after := _, guard := _ }) (v := ?v7x2) rfl (by kernel_rfl) (by kernel_rfl) (by kernel_rfl) (fun _ _ _ h => h) (Or.inl ⟨by kernel_rfl, ?y7x2⟩) (by assumption) ?r7x2
          case y7x2 =>
            intro wS hSw
            (try dsimp only at hSw)
            first | (go_simp; done) | (go_simp; with_reducible rfl)
          (try simp only [Act.put, List.setIfInBounds_toArray, List.set_cons_zero, List.set_cons_succ])
          refine wpAnyH_ready (rs := [2]) (by kernel_rfl) (by simp) ?_
          refine AllReadyH.cons (o := { dst := some 112, op := _, type := _, pos := _, after := _, guard := _ }) rfl (fun K7x3 hK7x3 => ?_) AllReadyH.nil
          go_simp
          refine (has_any _ _ _ _).mono ?_
          rintro e q24 ⟨rfl, hb⟩
          rw [HHI.out]
          have HS24 := Lib.hid (keep12 (w := q16.drew) hb HR2.out)
          clear hb
          go_simp
          refine hK7x3.out _ _ (by exact HS24.out) (fun hHeld7x3 => ?_)
          clear hK7x3 K7x3
          (try simp only [Act.put, List.setIfInBounds_toArray, List.set_cons_zero, List.set_cons_succ])
          refine wpAnyH_ready (rs := [4]) (by kernel_rfl) (by simp) ?_
          refine AllReadyH.cons (o := { dst := some 114, op := _, type := _, pos := _, after := _, guard := _ }) rfl (fun K7x4 hK7x4 => ?_) AllReadyH.nil
          go_simp
          refine (empty_any _ _ _).mono ?_
          rintro e q25 ⟨rfl, hb⟩
          rw [HES.out]
          have HS25 := Lib.hid (keep12 hb HS24.out)
          clear hb
          go_simp
          refine hK7x4.out _ _ (by exact HS25.out) (fun hHeld7x4 => ?_)
          clear hK7x4 K7x4
          (try simp only [Act.put, List.setIfInBounds_toArray, List.set_cons_zero, List.set_cons_succ])
          refine wpAnyH_take (i := 5) (oi := { dst := some 115, op := _, type := _, pos := _, after := _, guard := _ }) (v := ?v7x5) rfl (by kernel_rfl) (by kernel_rfl) (by kernel_rfl) (fun _ _ _ h => h) (Or.inl ⟨by kernel_rfl, ?y7x5⟩) (by assumption) ?r7x5
          case y7x5 =>
            intro wS hSw
            (try dsimp only at hSw)
            first | (go_simp; done) | (go_simp; with_reducible rfl)
          (try simp only [Act.put, List.setIfInBounds_toArray, List.set_cons_zero, List.set_cons_succ])
          refine wpAnyH_take (i := 6) (oi := { dst := some 116, op := _, type := _, pos := _, after := _, guard := _ }) (v := ?v7x6) rfl (by kernel_rfl) (by kernel_rfl) (by kernel_rfl) (fun _ _ _ h => h) (Or.inl ⟨by kernel_rfl, ?y7x6⟩) (by assumption) ?r7x6
          case y7x6 =>
            intro wS hSw
            (try dsimp only at hSw)
            first | (go_simp; done) | (go_simp; with_reducible rfl)
          (try simp only [Act.put, List.setIfInBounds_toArray, List.set_cons_zero, List.set_cons_succ])
          refine wpAnyH_take (i := 7) (oi := { dst := some 117, op := _, type := _, pos := _, after := _, guard := _ }) (v := ?v7x7) rfl (by kernel_rfl) (by kernel_rfl) (by kernel_rfl) (fun _ _ _ h => h) (Or.inl ⟨by kernel_rfl, ?y7x7⟩) (by assumption) ?r7x7
          case y7x7 =>
            intro wS hSw
            (try dsimp only at hSw)
            first | (go_simp; done) | (go_simp; with_reducible rfl)
          (try simp only [Act.put, List.setIfInBounds_toArray, List.set_cons_zero, List.set_cons_succ])
          refine wpAnyH_take (i := 8) (oi := { dst := some 118, op := _, type := _, pos := _, after := _, guard := _ }) (v := ?v7x8) rfl (by kernel_rfl) (by kernel_rfl) (by kernel_rfl) (fun _ _ _ h => h) (Or.inl ⟨by kernel_rfl, ?y7x8⟩) (by assumption) ?r7x8
          case y7x8 =>
            intro wS hSw
            (try dsimp only at hSw)
            first | (go_simp; done) | (go_simp; with_reducible rfl)
          (try simp only [Act.put, List.setIfInBounds_toArray, List.set_cons_zero, List.set_cons_succ])
          refine wpAnyH_take (i := 10) (oi := { dst := some 120, op := _, type := _, pos := _, after := _, guard := _ }) (v := ?v7x9) rfl (by kernel_rfl) (by kernel_rfl) (by kernel_rfl) (fun _ _ _ h => h) (Or.inl ⟨by kernel_rfl, ?y7x9⟩) (by assumption) ?r7x9
          case y7x9 =>
            intro wS hSw
            (try dsimp only at hSw)
            first | (go_simp; done) | (go_simp; with_reducible rfl)
          (try simp only [Act.put, List.setIfInBounds_toArray, List.set_cons_zero, List.set_cons_succ])
          refine wpAnyH_ready (rs := [9]) (by kernel_rfl) (by simp) ?_
          refine AllReadyH.cons (o := { dst := some 119, op := _, type := _, pos := _, after := _, guard := _ }) rfl (fun K7x10 hK7x10 => ?_) AllReadyH.nil
          go_simp
          refine (and_any _ _ _ _ _).mono ?_
          rintro e q26 ⟨rfl, hb⟩
          rw [HBS.out]
          simp only [spanV]
          have HS26 := Lib.hid (keep12 hb HS25.out)
          clear hb
          go_simp
          refine hK7x10.out _ _ (by exact HS26.out) (fun hHeld7x10 => ?_)
          clear hK7x10 K7x10
          (try simp only [Act.put, List.setIfInBounds_toArray, List.set_cons_zero, List.set_cons_succ])
          refine wpAnyH_take (i := 11) (oi := { dst := some 121, op := _, type := _, pos := _, after := _, guard := _ }) (v := ?v7x11) rfl (by kernel_rfl) (by kernel_rfl) (by kernel_rfl) (fun _ _ _ h => h) (Or.inl ⟨by kernel_rfl, ?y7x11⟩) (by assumption) ?r7x11
          case y7x11 =>
            intro wS hSw
            (try dsimp only at hSw)
            first | (go_simp; done) | (go_simp; with_reducible rfl)
          (try simp only [Act.put, List.setIfInBounds_toArray, List.set_cons_zero, List.set_cons_succ])
          refine wpAnyH_take (i := 12) (oi := { dst := some 122, op := _, type := _, pos := _, after := _, guard := _ }) (v := ?v7x12) rfl (by kernel_rfl) (by kernel_rfl) (by kernel_rfl) (fun _ _ _ h => h) (Or.inl ⟨by kernel_rfl, ?y7x12⟩) (by assumption) ?r7x12
          case y7x12 =>
            intro wS hSw
            (try dsimp only at hSw)
            first | (go_simp; done) | (go_simp; with_reducible rfl)
          (try simp only [Act.put, List.setIfInBounds_toArray, List.set_cons_zero, List.set_cons_succ])
          refine wpAnyH_take (i := 13) (oi := { dst := some 123, op := _, type := _, pos := _, after := _, guard := _ }) (v := ?v7x13) rfl (by kernel_rfl) (by kernel_rfl) (by kernel_rfl) (fun _ _ _ h => h) (Or.inl ⟨by kernel_rfl, ?y7x13⟩) (by assumption) ?r7x13
          case y7x13 =>
            intro wS hSw
            (try dsimp only at hSw)
            first | (go_simp; done) | (go_simp; with_reducible rfl)
          (try simp only [Act.put, List.setIfInBounds_toArray, List.set_cons_zero, List.set_cons_succ])
          refine wpAnyH_take (i := 14) (oi := { dst := some 124, op := _, type := _, pos := _, after := _, guard := _ }) (v := ?v7x14) rfl (by kernel_rfl) (by kernel_rfl) (by kernel_rfl) (fun _ _ _ h => h) (Or.inl ⟨by kernel_rfl, ?y7x14⟩) (by assumption) ?r7x14
          case y7x14 =>
            intro wS hSw
            (try dsimp only at hSw)
            first | (go_simp; done) | (go_simp; with_reducible rfl)
          (try simp only [Act.put, List.setIfInBounds_toArray, List.set_cons_zero, List.set_cons_succ])
          refine wpAnyH_take (i := 15) (oi := { dst := some 125, op := _, type := _, pos := _, after := _, guard := _ }) (v := ?v7x15) rfl (by kernel_rfl) (by kernel_rfl) (by kernel_rfl) (fun _ _ _ h => h) (Or.inl ⟨by kernel_rfl, ?y7x15⟩) (by assumption) ?r7x15
          case y7x15 =>
            intro wS hSw
            (try dsimp only at hSw)
            first | (go_simp; done) | (go_simp; with_reducible rfl)
          (try simp only [Act.put, List.setIfInBounds_toArray, List.set_cons_zero, List.set_cons_succ])
          refine wpAnyH_take (i := 16) (oi := { dst := some 126, op := _, type := _, pos := _, after := _, guard := _ }) (v := ?v7x16) rfl (by kernel_rfl) (by kernel_rfl) (by kernel_rfl) (fun _ _ _ h => h) (Or.inl ⟨by kernel_rfl, ?y7x16⟩) (by assumption) ?r7x16
          case y7x16 =>
            intro wS hSw
            (try dsimp only at hSw)
            first | (go_simp; done) | (go_simp; with_reducible rfl)
          (try simp only [Act.put, List.setIfInBounds_toArray, List.set_cons_zero, List.set_cons_succ])
          refine wpAnyH_take (i := 18) (oi := { dst := some 128, op := _, type := _, pos := _, after := _, guard := _ }) (v := ?v7x17) rfl (by kernel_rfl) (by kernel_rfl) (by kernel_rfl) (fun _ _ _ h => h) (Or.inl ⟨by kernel_rfl, ?y7x17⟩) (by assumption) ?r7x17
          case y7x17 =>
            intro wS hSw
            (try dsimp only at hSw)
            first | (go_simp; done) | (go_simp; with_reducible rfl)
          (try simp only [Act.put, List.setIfInBounds_toArray, List.set_cons_zero, List.set_cons_succ])
          refine wpAnyH_ready (rs := [17]) (by kernel_rfl) (by simp) ?_
          refine AllReadyH.cons (o := { dst := some 127, op := _, type := _, pos := _, after := _, guard := _ }) rfl (fun K7x18 hK7x18 => ?_) AllReadyH.nil
          go_simp
          refine (and_any _ _ _ _ _).mono ?_
          rintro e q27 ⟨rfl, hb⟩
          rw [HIS.out]
          simp only [spanV]
          have HS27 := Lib.hid (keep12 hb HS26.out)
          clear hb
          go_simp
          refine hK7x18.out _ _ (by exact HS27.out) (fun hHeld7x18 => ?_)
          clear hK7x18 K7x18
          (try simp only [Act.put, List.setIfInBounds_toArray, List.set_cons_zero, List.set_cons_succ])
          refine wpAnyH_take (i := 19) (oi := { dst := some 129, op := _, type := _, pos := _, after := _, guard := _ }) (v := ?v7x19) rfl (by kernel_rfl) (by kernel_rfl) (by kernel_rfl) (fun _ _ _ h => h) (Or.inl ⟨by kernel_rfl, ?y7x19⟩) (by assumption) ?r7x19
          case y7x19 =>
            intro wS hSw
            (try dsimp only at hSw)
            first | (go_simp; done) | (go_simp; with_reducible rfl)
          (try simp only [Act.put, List.setIfInBounds_toArray, List.set_cons_zero, List.set_cons_succ])
          refine wpAnyH_take (i := 20) (oi := { dst := some 130, op := _, type := _, pos := _, after := _, guard := _ }) (v := ?v7x20) rfl (by kernel_rfl) (by kernel_rfl) (by kernel_rfl) (fun _ _ _ h => h) (Or.inl ⟨by kernel_rfl, ?y7x20⟩) (by assumption) ?r7x20
          case y7x20 =>
            intro wS hSw
            (try dsimp only at hSw)
            first | (go_simp; done) | (go_simp; with_reducible rfl)
          (try simp only [Act.put, List.setIfInBounds_toArray, List.set_cons_zero, List.set_cons_succ])
          refine wpAnyH_take (i := 21) (oi := { dst := some 131, op := _, type := _, pos := _, after := _, guard := _ }) (v := ?v7x21) rfl (by kernel_rfl) (by kernel_rfl) (by kernel_rfl) (fun _ _ _ h => h) (Or.inl ⟨by kernel_rfl, ?y7x21⟩) (by assumption) ?r7x21
          case y7x21 =>
            intro wS hSw
            (try dsimp only at hSw)
            first | (go_simp; done) | (go_simp; with_reducible rfl)
          (try simp only [Act.put, List.setIfInBounds_toArray, List.set_cons_zero, List.set_cons_succ])
          refine wpAnyH_take (i := 22) (oi := { dst := some 132, op := _, type := _, pos := _, after := _, guard := _ }) (v := ?v7x22) rfl (by kernel_rfl) (by kernel_rfl) (by kernel_rfl) (fun _ _ _ h => h) (Or.inl ⟨by kernel_rfl, ?y7x22⟩) (by assumption) ?r7x22
          case y7x22 =>
            intro wS hSw
            (try dsimp only at hSw)
            first | (go_simp; done) | (go_simp; with_reducible rfl)
          (try simp only [Act.put, List.setIfInBounds_toArray, List.set_cons_zero, List.set_cons_succ])
          refine wpAnyH_take (i := 23) (oi := { dst := some 133, op := _, type := _, pos := _, after := _, guard := _ }) (v := ?v7x23) rfl (by kernel_rfl) (by kernel_rfl) (by kernel_rfl) (fun _ _ _ h => h) (Or.inl ⟨by kernel_rfl, ?y7x23⟩) (by assumption) ?r7x23
          case y7x23 =>
            intro wS hSw
            (try dsimp only at hSw)
            first | (go_simp; done) | (go_simp; with_reducible rfl)
          (try simp only [Act.put, List.setIfInBounds_toArray, List.set_cons_zero, List.set_cons_succ])
          refine wpAnyH_take (i := 25) (oi := { dst := some 135, op := _, type := _, pos := _, after := _, guard := _ }) (v := ?v7x24) rfl (by kernel_rfl) (by kernel_rfl) (by kernel_rfl) (fun _ _ _ h => h) (Or.inl ⟨by kernel_rfl, ?y7x24⟩) (by assumption) ?r7x24
          case y7x24 =>
            intro wS hSw
            (try dsimp only at hSw)
            first | (go_simp; done) | (go_simp; with_reducible rfl)
          (try simp only [Act.put, List.setIfInBounds_toArray, List.set_cons_zero, List.set_cons_succ])
          refine wpAnyH_take (i := 26) (oi := { dst := some 136, op := _, type := _, pos := _, after := _, guard := _ }) (v := ?v7x25) rfl (by kernel_rfl) (by kernel_rfl) (by kernel_rfl) (fun _ _ _ h => h) (Or.inl ⟨by kernel_rfl, ?y7x25⟩) (by assumption) ?r7x25
          case y7x25 =>
            intro wS hSw
            (try dsimp only at hSw)
            first | (go_simp; done) | (go_simp; with_reducible rfl)
          (try simp only [Act.put, List.setIfInBounds_toArray, List.set_cons_zero, List.set_cons_succ])
          refine wpAnyH_ready (rs := [24]) (by kernel_rfl) (by simp) ?_
          refine AllReadyH.cons (o := { dst := some 134, op := _, type := _, pos := _, after := _, guard := _ }) rfl (fun K7x26 hK7x26 => ?_) AllReadyH.nil
          go_simp
          refine (and_any _ _ _ _ _).mono ?_
          rintro e q28 ⟨rfl, hb⟩
          rw [HSO.out]
          simp only [spanV]
          have HS28 := Lib.hid (keep12 hb HS27.out)
          clear hb
          go_simp
          refine hK7x26.out _ _ (by exact HS28.out) (fun hHeld7x26 => ?_)
          clear hK7x26 K7x26
          (try simp only [Act.put, List.setIfInBounds_toArray, List.set_cons_zero, List.set_cons_succ])
          refine wpAnyH_ready (rs := [27]) (by kernel_rfl) (by simp) ?_
          refine AllReadyH.cons (o := { dst := some 137, op := _, type := _, pos := _, after := _, guard := _ }) rfl (fun K7x27 hK7x27 => ?_) AllReadyH.nil
          go_simp
          refine (and_any _ _ _ _ _).mono ?_
          rintro e q29 ⟨rfl, hb⟩
          rw [HSS.out]
          simp only [spanV]
          have HS29 := Lib.hid (keep12 hb HS28.out)
          clear hb
          go_simp
          refine hK7x27.out _ _ (by exact HS29.out) (fun hHeld7x27 => ?_)
          clear hK7x27 K7x27
          (try simp only [Act.put, List.setIfInBounds_toArray, List.set_cons_zero, List.set_cons_succ])
          refine wpAnyH_take (i := 28) (oi := { dst := some 138, op := _, type := _, pos := _, after := _, guard := _ }) (v := ?v7x28) rfl (by kernel_rfl) (by kernel_rfl) (by kernel_rfl) (fun _ _ _ h => h) (Or.inl ⟨by kernel_rfl, ?y7x28⟩) (by assumption) ?r7x28
          case y7x28 =>
            intro wS hSw
            (try dsimp only at hSw)
            first | (go_simp; done) | (go_simp; with_reducible rfl)
          (try simp only [Act.put, List.setIfInBounds_toArray, List.set_cons_zero, List.set_cons_succ])
          refine wpAnyH_take (i := 29) (oi := { dst := some 139, op := _, type := _, pos := _, after := _, guard := _ }) (v := ?v7x29) rfl (by kernel_rfl) (by kernel_rfl) (by kernel_rfl) (fun _ _ _ h => h) (Or.inl ⟨by kernel_rfl, ?y7x29⟩) (by assumption) ?r7x29
          case y7x29 =>
            intro wS hSw
            (try dsimp only at hSw)
            first | (go_simp; done) | (go_simp; with_reducible rfl)
          (try simp only [Act.put, List.setIfInBounds_toArray, List.set_cons_zero, List.set_cons_succ])
          refine wpAnyH_take (i := 30) (oi := { dst := some 140, op := _, type := _, pos := _, after := _, guard := _ }) (v := ?v7x30) rfl (by kernel_rfl) (by kernel_rfl) (by kernel_rfl) (fun _ _ _ h => h) (Or.inl ⟨by kernel_rfl, ?y7x30⟩) (by assumption) ?r7x30
          case y7x30 =>
            intro wS hSw
            (try dsimp only at hSw)
            first | (go_simp; done) | (go_simp; with_reducible rfl)
          (try simp only [Act.put, List.setIfInBounds_toArray, List.set_cons_zero, List.set_cons_succ])
          refine wpAnyH_ready (rs := [31]) (by kernel_rfl) (by simp) ?_
          refine AllReadyH.cons (o := { dst := some 141, op := _, type := _, pos := _, after := _, guard := _ }) rfl (fun K7x31 hK7x31 => ?_) AllReadyH.nil
          go_simp
          refine (wakes_any _).mono ?_
          rintro e q30 ⟨rfl, hb⟩
          have HS30 := Lib.hid (keep12 hb HS29.out)
          clear hb
          go_simp
          refine hK7x31.out _ _ (by exact HS30.out) (fun hHeld7x31 => ?_)
          clear hK7x31 K7x31
          (try simp only [Act.put, List.setIfInBounds_toArray, List.set_cons_zero, List.set_cons_succ])
          refine wpAnyH_take (i := 32) (oi := { dst := some 142, op := _, type := _, pos := _, after := _, guard := _ }) (v := ?v7x32) rfl (by kernel_rfl) (by kernel_rfl) (by kernel_rfl) (fun _ _ _ h => h) (Or.inl ⟨by kernel_rfl, ?y7x32⟩) (by assumption) ?r7x32
          case y7x32 =>
            intro wS hSw
            (try dsimp only at hSw)
            first | (go_simp; done) | (go_simp; with_reducible rfl)
          (try simp only [Act.put, List.setIfInBounds_toArray, List.set_cons_zero, List.set_cons_succ])
          refine wpAnyH_take (i := 33) (oi := { dst := some 6, op := _, type := _, pos := _, after := _, guard := _ }) (v := ?v7x33) rfl (by kernel_rfl) (by kernel_rfl) (by kernel_rfl) (fun _ _ _ h => h) (Or.inl ⟨by kernel_rfl, ?y7x33⟩) (by assumption) ?r7x33
          case y7x33 =>
            intro wS hSw
            (try dsimp only at hSw)
            first | (go_simp; done) | (go_simp; with_reducible rfl)
          (try simp only [Act.put, List.setIfInBounds_toArray, List.set_cons_zero, List.set_cons_succ])
          refine wpAnyH_done (by kernel_rfl) ?_ _
          (try dsimp only [Act.put])
          (try simp only [Act.put, List.setIfInBounds_toArray, List.set_cons_zero, List.set_cons_succ])
          go_wp2_with fail
          go_ret
          exact ⟨rfl, HS30.out.2.2.2.2.2.2.2.2.2.2.2.2⟩
      · have HHI := Lib.hid hhi
        obtain ⟨hz1, hz2⟩ := F6.out hhi
        clear hhi
        subst hz1 hz2
        refine wp_region_held_drew (S := (fun W' => W'.cell? ⟨w.heap.size, 0, none⟩ = some (.int .i64 a0) ∧ W'.cell? ⟨w.heap.size, 1, none⟩ = some (.int .i64 b0) ∧ W'.cell? ⟨y1.heap.size, 0, none⟩ = some (.int .i64 o1) ∧ W'.cell? ⟨y1.heap.size, 1, none⟩ = some (.int .i64 o2) ∧ W'.cell? ⟨y2.heap.size, 0, none⟩ = some (.int .i64 i1) ∧ W'.cell? ⟨y2.heap.size, 1, none⟩ = some (.int .i64 i2) ∧ W'.cell? ⟨y3.heap.size, 0, none⟩ = some (.int .i64 c1) ∧ W'.cell? ⟨y3.heap.size, 1, none⟩ = some (.int .i64 (c1 + a1)) ∧ W'.cell? ⟨y4.heap.size, 0, none⟩ = some (.int .i64 o1) ∧ W'.cell? ⟨y4.heap.size, 1, none⟩ = some (.int .i64 o2) ∧ W'.cell? ⟨y5.heap.size, 0, none⟩ = some (.int .i64 i1) ∧ W'.cell? ⟨y5.heap.size, 1, none⟩ = some (.int .i64 i2) ∧ Below w.heap.size w W')) (by kernel_rfl) (by exact HR2.out) (fun hHeld8 => ?_)
        refine wpAnyH_take (i := 0) (oi := { dst := some 110, op := _, type := _, pos := _, after := _, guard := _ }) (v := ?v8x0) rfl (by kernel_rfl) (by kernel_rfl) (by kernel_rfl) (fun _ _ _ h => h) (Or.inl ⟨by kernel_rfl, ?y8x0⟩) (by assumption) ?r8x0
        case y8x0 =>
          intro wS hSw
          (try dsimp only at hSw)
          first | (go_simp; done) | (go_simp; with_reducible rfl)
        (try simp only [Act.put, List.setIfInBounds_toArray, List.set_cons_zero, List.set_cons_succ])
        refine wpAnyH_take (i := 1) (oi := { dst := some 111, op := _, type := _, pos := _, after := _, guard := _ }) (v := ?v8x1) rfl (by kernel_rfl) (by kernel_rfl) (by kernel_rfl) (fun _ _ _ h => h) (Or.inl ⟨by kernel_rfl, ?y8x1⟩) (by assumption) ?r8x1
        case y8x1 =>
          intro wS hSw
          (try dsimp only at hSw)
          first | (go_simp; done) | (go_simp; with_reducible rfl)
        (try simp only [Act.put, List.setIfInBounds_toArray, List.set_cons_zero, List.set_cons_succ])
        refine wpAnyH_take (i := 3) (oi := { dst := some 113, op := _, type := _, pos := _, after := _, guard := _ }) (v := ?v8x2) rfl (by kernel_rfl) (by kernel_rfl) (by kernel_rfl) (fun _ _ _ h => h) (Or.inl ⟨by kernel_rfl, ?y8x2⟩) (by assumption) ?r8x2
        case y8x2 =>
          intro wS hSw
          (try dsimp only at hSw)
          first | (go_simp; done) | (go_simp; with_reducible rfl)
        (try simp only [Act.put, List.setIfInBounds_toArray, List.set_cons_zero, List.set_cons_succ])
        refine wpAnyH_ready (rs := [2]) (by kernel_rfl) (by simp) ?_
        refine AllReadyH.cons (o := { dst := some 112, op := _, type := _, pos := _, after := _, guard := _ }) rfl (fun K8x3 hK8x3 => ?_) AllReadyH.nil
        go_simp
        refine (has_any _ _ _ _).mono ?_
        rintro e q31 ⟨rfl, hb⟩
        rw [HHI.out]
        have HS31 := Lib.hid (keep12 (w := q16.drew) hb HR2.out)
        clear hb
        go_simp
        refine hK8x3.out _ _ (by exact HS31.out) (fun hHeld8x3 => ?_)
        clear hK8x3 K8x3
        (try simp only [Act.put, List.setIfInBounds_toArray, List.set_cons_zero, List.set_cons_succ])
        refine wpAnyH_ready (rs := [4]) (by kernel_rfl) (by simp) ?_
        refine AllReadyH.cons (o := { dst := some 114, op := _, type := _, pos := _, after := _, guard := _ }) rfl (fun K8x4 hK8x4 => ?_) AllReadyH.nil
        go_simp
        refine (empty_any _ _ _).mono ?_
        rintro e q32 ⟨rfl, hb⟩
        rw [HES.out]
        have HS32 := Lib.hid (keep12 hb HS31.out)
        clear hb
        go_simp
        refine hK8x4.out _ _ (by exact HS32.out) (fun hHeld8x4 => ?_)
        clear hK8x4 K8x4
        (try simp only [Act.put, List.setIfInBounds_toArray, List.set_cons_zero, List.set_cons_succ])
        refine wpAnyH_take (i := 5) (oi := { dst := some 115, op := _, type := _, pos := _, after := _, guard := _ }) (v := ?v8x5) rfl (by kernel_rfl) (by kernel_rfl) (by kernel_rfl) (fun _ _ _ h => h) (Or.inl ⟨by kernel_rfl, ?y8x5⟩) (by assumption) ?r8x5
        case y8x5 =>
          intro wS hSw
          (try dsimp only at hSw)
          first | (go_simp; done) | (go_simp; with_reducible rfl)
        (try simp only [Act.put, List.setIfInBounds_toArray, List.set_cons_zero, List.set_cons_succ])
        refine wpAnyH_take (i := 6) (oi := { dst := some 116, op := _, type := _, pos := _, after := _, guard := _ }) (v := ?v8x6) rfl (by kernel_rfl) (by kernel_rfl) (by kernel_rfl) (fun _ _ _ h => h) (Or.inl ⟨by kernel_rfl, ?y8x6⟩) (by assumption) ?r8x6
        case y8x6 =>
          intro wS hSw
          (try dsimp only at hSw)
          first | (go_simp; done) | (go_simp; with_reducible rfl)
        (try simp only [Act.put, List.setIfInBounds_toArray, List.set_cons_zero, List.set_cons_succ])
        refine wpAnyH_take (i := 7) (oi := { dst := some 117, op := _, type := _, pos := _, after := _, guard := _ }) (v := ?v8x7) rfl (by kernel_rfl) (by kernel_rfl) (by kernel_rfl) (fun _ _ _ h => h) (Or.inl ⟨by kernel_rfl, ?y8x7⟩) (by assumption) ?r8x7
        case y8x7 =>
          intro wS hSw
          (try dsimp only at hSw)
          first | (go_simp; done) | (go_simp; with_reducible rfl)
        (try simp only [Act.put, List.setIfInBounds_toArray, List.set_cons_zero, List.set_cons_succ])
        refine wpAnyH_take (i := 8) (oi := { dst := some 118, op := _, type := _, pos := _, after := _, guard := _ }) (v := ?v8x8) rfl (by kernel_rfl) (by kernel_rfl) (by kernel_rfl) (fun _ _ _ h => h) (Or.inl ⟨by kernel_rfl, ?y8x8⟩) (by assumption) ?r8x8
        case y8x8 =>
          intro wS hSw
          (try dsimp only at hSw)
          first | (go_simp; done) | (go_simp; with_reducible rfl)
        (try simp only [Act.put, List.setIfInBounds_toArray, List.set_cons_zero, List.set_cons_succ])
        refine wpAnyH_take (i := 10) (oi := { dst := some 120, op := _, type := _, pos := _, after := _, guard := _ }) (v := ?v8x9) rfl (by kernel_rfl) (by kernel_rfl) (by kernel_rfl) (fun _ _ _ h => h) (Or.inl ⟨by kernel_rfl, ?y8x9⟩) (by assumption) ?r8x9
        case y8x9 =>
          intro wS hSw
          (try dsimp only at hSw)
          first | (go_simp; done) | (go_simp; with_reducible rfl)
        (try simp only [Act.put, List.setIfInBounds_toArray, List.set_cons_zero, List.set_cons_succ])
        refine wpAnyH_ready (rs := [9]) (by kernel_rfl) (by simp) ?_
        refine AllReadyH.cons (o := { dst := some 119, op := _, type := _, pos := _, after := _, guard := _ }) rfl (fun K8x10 hK8x10 => ?_) AllReadyH.nil
        go_simp
        refine (and_any _ _ _ _ _).mono ?_
        rintro e q33 ⟨rfl, hb⟩
        rw [HBS.out]
        simp only [spanV]
        have HS33 := Lib.hid (keep12 hb HS32.out)
        clear hb
        go_simp
        refine hK8x10.out _ _ (by exact HS33.out) (fun hHeld8x10 => ?_)
        clear hK8x10 K8x10
        (try simp only [Act.put, List.setIfInBounds_toArray, List.set_cons_zero, List.set_cons_succ])
        refine wpAnyH_take (i := 11) (oi := { dst := some 121, op := _, type := _, pos := _, after := _, guard := _ }) (v := ?v8x11) rfl (by kernel_rfl) (by kernel_rfl) (by kernel_rfl) (fun _ _ _ h => h) (Or.inl ⟨by kernel_rfl, ?y8x11⟩) (by assumption) ?r8x11
        case y8x11 =>
          intro wS hSw
          (try dsimp only at hSw)
          first | (go_simp; done) | (go_simp; with_reducible rfl)
        (try simp only [Act.put, List.setIfInBounds_toArray, List.set_cons_zero, List.set_cons_succ])
        refine wpAnyH_take (i := 12) (oi := { dst := some 122, op := _, type := _, pos := _, after := _, guard := _ }) (v := ?v8x12) rfl (by kernel_rfl) (by kernel_rfl) (by kernel_rfl) (fun _ _ _ h => h) (Or.inl ⟨by kernel_rfl, ?y8x12⟩) (by assumption) ?r8x12
        case y8x12 =>
          intro wS hSw
          (try dsimp only at hSw)
          first | (go_simp; done) | (go_simp; with_reducible rfl)
        (try simp only [Act.put, List.setIfInBounds_toArray, List.set_cons_zero, List.set_cons_succ])
        refine wpAnyH_take (i := 13) (oi := { dst := some 123, op := _, type := _, pos := _, after := _, guard := _ }) (v := ?v8x13) rfl (by kernel_rfl) (by kernel_rfl) (by kernel_rfl) (fun _ _ _ h => h) (Or.inl ⟨by kernel_rfl, ?y8x13⟩) (by assumption) ?r8x13
        case y8x13 =>
          intro wS hSw
          (try dsimp only at hSw)
          first | (go_simp; done) | (go_simp; with_reducible rfl)
        (try simp only [Act.put, List.setIfInBounds_toArray, List.set_cons_zero, List.set_cons_succ])
        refine wpAnyH_take (i := 14) (oi := { dst := some 124, op := _, type := _, pos := _, after := _, guard := _ }) (v := ?v8x14) rfl (by kernel_rfl) (by kernel_rfl) (by kernel_rfl) (fun _ _ _ h => h) (Or.inl ⟨by kernel_rfl, ?y8x14⟩) (by assumption) ?r8x14
        case y8x14 =>
          intro wS hSw
          (try dsimp only at hSw)
          first | (go_simp; done) | (go_simp; with_reducible rfl)
        (try simp only [Act.put, List.setIfInBounds_toArray, List.set_cons_zero, List.set_cons_succ])
        refine wpAnyH_take (i := 15) (oi := { dst := some 125, op := _, type := _, pos := _, after := _, guard := _ }) (v := ?v8x15) rfl (by kernel_rfl) (by kernel_rfl) (by kernel_rfl) (fun _ _ _ h => h) (Or.inl ⟨by kernel_rfl, ?y8x15⟩) (by assumption) ?r8x15
        case y8x15 =>
          intro wS hSw
          (try dsimp only at hSw)
          first | (go_simp; done) | (go_simp; with_reducible rfl)
        (try simp only [Act.put, List.setIfInBounds_toArray, List.set_cons_zero, List.set_cons_succ])
        refine wpAnyH_take (i := 16) (oi := { dst := some 126, op := _, type := _, pos := _, after := _, guard := _ }) (v := ?v8x16) rfl (by kernel_rfl) (by kernel_rfl) (by kernel_rfl) (fun _ _ _ h => h) (Or.inl ⟨by kernel_rfl, ?y8x16⟩) (by assumption) ?r8x16
        case y8x16 =>
          intro wS hSw
          (try dsimp only at hSw)
          first | (go_simp; done) | (go_simp; with_reducible rfl)
        (try simp only [Act.put, List.setIfInBounds_toArray, List.set_cons_zero, List.set_cons_succ])
        refine wpAnyH_take (i := 18) (oi := { dst := some 128, op := _, type := _, pos := _, after := _, guard := _ }) (v := ?v8x17) rfl (by kernel_rfl) (by kernel_rfl) (by kernel_rfl) (fun _ _ _ h => h) (Or.inl ⟨by kernel_rfl, ?y8x17⟩) (by assumption) ?r8x17
        case y8x17 =>
          intro wS hSw
          (try dsimp only at hSw)
          first | (go_simp; done) | (go_simp; with_reducible rfl)
        (try simp only [Act.put, List.setIfInBounds_toArray, List.set_cons_zero, List.set_cons_succ])
        refine wpAnyH_ready (rs := [17]) (by kernel_rfl) (by simp) ?_
        refine AllReadyH.cons (o := { dst := some 127, op := _, type := _, pos := _, after := _, guard := _ }) rfl (fun K8x18 hK8x18 => ?_) AllReadyH.nil
        go_simp
        refine (and_any _ _ _ _ _).mono ?_
        rintro e q34 ⟨rfl, hb⟩
        rw [HIS.out]
        simp only [spanV]
        have HS34 := Lib.hid (keep12 hb HS33.out)
        clear hb
        go_simp
        refine hK8x18.out _ _ (by exact HS34.out) (fun hHeld8x18 => ?_)
        clear hK8x18 K8x18
        (try simp only [Act.put, List.setIfInBounds_toArray, List.set_cons_zero, List.set_cons_succ])
        refine wpAnyH_take (i := 19) (oi := { dst := some 129, op := _, type := _, pos := _, after := _, guard := _ }) (v := ?v8x19) rfl (by kernel_rfl) (by kernel_rfl) (by kernel_rfl) (fun _ _ _ h => h) (Or.inl ⟨by kernel_rfl, ?y8x19⟩) (by assumption) ?r8x19
        case y8x19 =>
          intro wS hSw
          (try dsimp only at hSw)
          first | (go_simp; done) | (go_simp; with_reducible rfl)
        (try simp only [Act.put, List.setIfInBounds_toArray, List.set_cons_zero, List.set_cons_succ])
        refine wpAnyH_take (i := 20) (oi := { dst := some 130, op := _, type := _, pos := _, after := _, guard := _ }) (v := ?v8x20) rfl (by kernel_rfl) (by kernel_rfl) (by kernel_rfl) (fun _ _ _ h => h) (Or.inl ⟨by kernel_rfl, ?y8x20⟩) (by assumption) ?r8x20
        case y8x20 =>
          intro wS hSw
          (try dsimp only at hSw)
          first | (go_simp; done) | (go_simp; with_reducible rfl)
        (try simp only [Act.put, List.setIfInBounds_toArray, List.set_cons_zero, List.set_cons_succ])
        refine wpAnyH_take (i := 21) (oi := { dst := some 131, op := _, type := _, pos := _, after := _, guard := _ }) (v := ?v8x21) rfl (by kernel_rfl) (by kernel_rfl) (by kernel_rfl) (fun _ _ _ h => h) (Or.inl ⟨by kernel_rfl, ?y8x21⟩) (by assumption) ?r8x21
        case y8x21 =>
          intro wS hSw
          (try dsimp only at hSw)
          first | (go_simp; done) | (go_simp; with_reducible rfl)
        (try simp only [Act.put, List.setIfInBounds_toArray, List.set_cons_zero, List.set_cons_succ])
        refine wpAnyH_take (i := 22) (oi := { dst := some 132, op := _, type := _, pos := _, after := _, guard := _ }) (v := ?v8x22) rfl (by kernel_rfl) (by kernel_rfl) (by kernel_rfl) (fun _ _ _ h => h) (Or.inl ⟨by kernel_rfl, ?y8x22⟩) (by assumption) ?r8x22
        case y8x22 =>
          intro wS hSw
          (try dsimp only at hSw)
          first | (go_simp; done) | (go_simp; with_reducible rfl)
        (try simp only [Act.put, List.setIfInBounds_toArray, List.set_cons_zero, List.set_cons_succ])
        refine wpAnyH_take (i := 23) (oi := { dst := some 133, op := _, type := _, pos := _, after := _, guard := _ }) (v := ?v8x23) rfl (by kernel_rfl) (by kernel_rfl) (by kernel_rfl) (fun _ _ _ h => h) (Or.inl ⟨by kernel_rfl, ?y8x23⟩) (by assumption) ?r8x23
        case y8x23 =>
          intro wS hSw
          (try dsimp only at hSw)
          first | (go_simp; done) | (go_simp; with_reducible rfl)
        (try simp only [Act.put, List.setIfInBounds_toArray, List.set_cons_zero, List.set_cons_succ])
        refine wpAnyH_take (i := 25) (oi := { dst := some 135, op := _, type := _, pos := _, after := _, guard := _ }) (v := ?v8x24) rfl (by kernel_rfl) (by kernel_rfl) (by kernel_rfl) (fun _ _ _ h => h) (Or.inl ⟨by kernel_rfl, ?y8x24⟩) (by assumption) ?r8x24
        case y8x24 =>
          intro wS hSw
          (try dsimp only at hSw)
          first | (go_simp; done) | (go_simp; with_reducible rfl)
        (try simp only [Act.put, List.setIfInBounds_toArray, List.set_cons_zero, List.set_cons_succ])
        refine wpAnyH_take (i := 26) (oi := { dst := some 136, op := _, type := _, pos := _, after := _, guard := _ }) (v := ?v8x25) rfl (by kernel_rfl) (by kernel_rfl) (by kernel_rfl) (fun _ _ _ h => h) (Or.inl ⟨by kernel_rfl, ?y8x25⟩) (by assumption) ?r8x25
        case y8x25 =>
          intro wS hSw
          (try dsimp only at hSw)
          first | (go_simp; done) | (go_simp; with_reducible rfl)
        (try simp only [Act.put, List.setIfInBounds_toArray, List.set_cons_zero, List.set_cons_succ])
        refine wpAnyH_ready (rs := [24]) (by kernel_rfl) (by simp) ?_
        refine AllReadyH.cons (o := { dst := some 134, op := _, type := _, pos := _, after := _, guard := _ }) rfl (fun K8x26 hK8x26 => ?_) AllReadyH.nil
        go_simp
        refine (and_any _ _ _ _ _).mono ?_
        rintro e q35 ⟨rfl, hb⟩
        rw [HSO.out]
        simp only [spanV]
        have HS35 := Lib.hid (keep12 hb HS34.out)
        clear hb
        go_simp
        refine hK8x26.out _ _ (by exact HS35.out) (fun hHeld8x26 => ?_)
        clear hK8x26 K8x26
        (try simp only [Act.put, List.setIfInBounds_toArray, List.set_cons_zero, List.set_cons_succ])
        refine wpAnyH_ready (rs := [27]) (by kernel_rfl) (by simp) ?_
        refine AllReadyH.cons (o := { dst := some 137, op := _, type := _, pos := _, after := _, guard := _ }) rfl (fun K8x27 hK8x27 => ?_) AllReadyH.nil
        go_simp
        refine (and_any _ _ _ _ _).mono ?_
        rintro e q36 ⟨rfl, hb⟩
        rw [HSS.out]
        simp only [spanV]
        have HS36 := Lib.hid (keep12 hb HS35.out)
        clear hb
        go_simp
        refine hK8x27.out _ _ (by exact HS36.out) (fun hHeld8x27 => ?_)
        clear hK8x27 K8x27
        (try simp only [Act.put, List.setIfInBounds_toArray, List.set_cons_zero, List.set_cons_succ])
        refine wpAnyH_take (i := 28) (oi := { dst := some 138, op := _, type := _, pos := _, after := _, guard := _ }) (v := ?v8x28) rfl (by kernel_rfl) (by kernel_rfl) (by kernel_rfl) (fun _ _ _ h => h) (Or.inl ⟨by kernel_rfl, ?y8x28⟩) (by assumption) ?r8x28
        case y8x28 =>
          intro wS hSw
          (try dsimp only at hSw)
          first | (go_simp; done) | (go_simp; with_reducible rfl)
        (try simp only [Act.put, List.setIfInBounds_toArray, List.set_cons_zero, List.set_cons_succ])
        refine wpAnyH_take (i := 29) (oi := { dst := some 139, op := _, type := _, pos := _, after := _, guard := _ }) (v := ?v8x29) rfl (by kernel_rfl) (by kernel_rfl) (by kernel_rfl) (fun _ _ _ h => h) (Or.inl ⟨by kernel_rfl, ?y8x29⟩) (by assumption) ?r8x29
        case y8x29 =>
          intro wS hSw
          (try dsimp only at hSw)
          first | (go_simp; done) | (go_simp; with_reducible rfl)
        (try simp only [Act.put, List.setIfInBounds_toArray, List.set_cons_zero, List.set_cons_succ])
        refine wpAnyH_take (i := 30) (oi := { dst := some 140, op := _, type := _, pos := _, after := _, guard := _ }) (v := ?v8x30) rfl (by kernel_rfl) (by kernel_rfl) (by kernel_rfl) (fun _ _ _ h => h) (Or.inl ⟨by kernel_rfl, ?y8x30⟩) (by assumption) ?r8x30
        case y8x30 =>
          intro wS hSw
          (try dsimp only at hSw)
          first | (go_simp; done) | (go_simp; with_reducible rfl)
        (try simp only [Act.put, List.setIfInBounds_toArray, List.set_cons_zero, List.set_cons_succ])
        refine wpAnyH_ready (rs := [31]) (by kernel_rfl) (by simp) ?_
        refine AllReadyH.cons (o := { dst := some 141, op := _, type := _, pos := _, after := _, guard := _ }) rfl (fun K8x31 hK8x31 => ?_) AllReadyH.nil
        go_simp
        refine (wakes_any _).mono ?_
        rintro e q37 ⟨rfl, hb⟩
        have HS37 := Lib.hid (keep12 hb HS36.out)
        clear hb
        go_simp
        refine hK8x31.out _ _ (by exact HS37.out) (fun hHeld8x31 => ?_)
        clear hK8x31 K8x31
        (try simp only [Act.put, List.setIfInBounds_toArray, List.set_cons_zero, List.set_cons_succ])
        refine wpAnyH_take (i := 32) (oi := { dst := some 142, op := _, type := _, pos := _, after := _, guard := _ }) (v := ?v8x32) rfl (by kernel_rfl) (by kernel_rfl) (by kernel_rfl) (fun _ _ _ h => h) (Or.inl ⟨by kernel_rfl, ?y8x32⟩) (by assumption) ?r8x32
        case y8x32 =>
          intro wS hSw
          (try dsimp only at hSw)
          first | (go_simp; done) | (go_simp; with_reducible rfl)
        (try simp only [Act.put, List.setIfInBounds_toArray, List.set_cons_zero, List.set_cons_succ])
        refine wpAnyH_take (i := 33) (oi := { dst := some 6, op := _, type := _, pos := _, after := _, guard := _ }) (v := ?v8x33) rfl (by kernel_rfl) (by kernel_rfl) (by kernel_rfl) (fun _ _ _ h => h) (Or.inl ⟨by kernel_rfl, ?y8x33⟩) (by assumption) ?r8x33
        case y8x33 =>
          intro wS hSw
          (try dsimp only at hSw)
          first | (go_simp; done) | (go_simp; with_reducible rfl)
        (try simp only [Act.put, List.setIfInBounds_toArray, List.set_cons_zero, List.set_cons_succ])
        refine wpAnyH_done (by kernel_rfl) ?_ _
        (try dsimp only [Act.put])
        (try simp only [Act.put, List.setIfInBounds_toArray, List.set_cons_zero, List.set_cons_succ])
        go_wp2_with fail
        go_ret
        exact ⟨rfl, HS37.out.2.2.2.2.2.2.2.2.2.2.2.2⟩
  · have hcase : timeB a0 = false ∨ (timeB a0 = true ∧ timeB b0 = false) ∨ (timeB a0 = true ∧ timeB b0 = true ∧ widthB a1 = false) ∨ (timeB a0 = true ∧ timeB b0 = true ∧ widthB a1 = true ∧ timeB a2 = false) := by
      revert hg
      cases timeB a0 <;> cases timeB b0 <;> cases widthB a1 <;> cases timeB a2 <;> simp
    clear hg
    rcases hcase with g1 | ⟨g1, g2⟩ | ⟨g1, g2, g3⟩ | ⟨g1, g2, g3, g4⟩
    · have G1 := Lib.hid g1
      clear g1
      go_enter Try.func5, Try.ntmps5
      go_wp2_with fail
      refine (time_any _ _).mono ?_
      rintro e w' ⟨rfl, rfl⟩
      rw [G1.out]
      go_wp2_with fail
      refine (wakes_any _).mono ?_
      rintro e w' ⟨rfl, hb⟩
      have Hb := Lib.hid (below_step (alloc1 w _) hb)
      clear hb
      go_wp2_with fail
      go_ret
      exact ⟨rfl, Hb.out⟩
    · have G1 := Lib.hid g1
      have G2 := Lib.hid g2
      clear g1 g2
      go_enter Try.func5, Try.ntmps5
      go_wp2_with fail
      refine (time_any _ _).mono ?_
      rintro e w' ⟨rfl, rfl⟩
      rw [G1.out]
      go_wp2_with fail
      refine (time_any _ _).mono ?_
      rintro e w' ⟨rfl, rfl⟩
      rw [G2.out]
      go_wp2_with fail
      refine (wakes_any _).mono ?_
      rintro e w' ⟨rfl, hb⟩
      have Hb := Lib.hid (below_step (alloc1 w _) hb)
      clear hb
      go_wp2_with fail
      go_ret
      exact ⟨rfl, Hb.out⟩
    · have G1 := Lib.hid g1
      have G2 := Lib.hid g2
      have G3 := Lib.hid g3
      clear g1 g2 g3
      go_enter Try.func5, Try.ntmps5
      go_wp2_with fail
      refine (time_any _ _).mono ?_
      rintro e w' ⟨rfl, rfl⟩
      rw [G1.out]
      go_wp2_with fail
      refine (time_any _ _).mono ?_
      rintro e w' ⟨rfl, rfl⟩
      rw [G2.out]
      go_wp2_with fail
      refine (width_any _ _).mono ?_
      rintro e w' ⟨rfl, rfl⟩
      rw [G3.out]
      go_wp2_with fail
      refine (wakes_any _).mono ?_
      rintro e w' ⟨rfl, hb⟩
      have Hb := Lib.hid (below_step (alloc1 w _) hb)
      clear hb
      go_wp2_with fail
      go_ret
      exact ⟨rfl, Hb.out⟩
    · have G1 := Lib.hid g1
      have G2 := Lib.hid g2
      have G3 := Lib.hid g3
      have G4 := Lib.hid g4
      clear g1 g2 g3 g4
      go_enter Try.func5, Try.ntmps5
      go_wp2_with fail
      refine (time_any _ _).mono ?_
      rintro e w' ⟨rfl, rfl⟩
      rw [G1.out]
      go_wp2_with fail
      refine (time_any _ _).mono ?_
      rintro e w' ⟨rfl, rfl⟩
      rw [G2.out]
      go_wp2_with fail
      refine (width_any _ _).mono ?_
      rintro e w' ⟨rfl, rfl⟩
      rw [G3.out]
      go_wp2_with fail
      refine (time_any _ _).mono ?_
      rintro e w' ⟨rfl, rfl⟩
      rw [G4.out]
      go_wp2_with fail
      refine (wakes_any _).mono ?_
      rintro e w' ⟨rfl, hb⟩
      have Hb := Lib.hid (below_step (alloc1 w _) hb)
      clear hb
      go_wp2_with fail
      go_ret
      exact ⟨rfl, Hb.out⟩

set_option maxRecDepth 100000 in
theorem lifted (os : Os) (started : os.Started) (H : Type) (enc : TypeId × Value → H) :
    ReturnsInHanded {} Try.checked os 5 .any (Rows.spanWholeSpec.pre6 enc Try.prog Try.f5 Rows.spanWholeRow.domain false) (Rows.spanWholeSpec.post enc Try.prog Try.f5 false true false false) := by
  refine returnsInHanded_of_change (C := Try.checked) own started (by kernel_rfl) Try.func5
    (ChangeSpec.witness6 (enc := enc) (C := Try.checked) false ⟨#[], #[.agg #[.int .i64 0, .int .i64 0], .int .i64 0, .int .i64 0], []⟩ 8 (by kernel_rfl) (by kernel_rfl) (by kernel_rfl) (by kernel_rfl)) ?_
  intro W base args ds gs before hval0 hW hcnd _
  have hval : ∀ (j : Nat) t v, Try.f5.params[j]? = some t → args[j]? = some v → Value.okWide Try.prog W .any base t v := hval0
  have hW' := hW
  obtain ⟨p, q, hA0, hV, rfl, hfz, hnd⟩ := hW
  have hA : DataW.TrodAll enc Try.prog W 0 (fun _ => true) true Try.f5.params.toList args.toList ds p := hA0
  rw [Try.params5] at hA hval
  obtain ⟨v0, vs0, d0, ds0, p0, q0, hargs, rfl, rfl, h0, r0⟩ := trodAll_cons hA
  obtain ⟨v1, vs1, d1, ds1, p1, q1, rfl, rfl, rfl, h1, r1⟩ := trodAll_cons r0
  obtain ⟨v2, vs2, d2, ds2, p2, q2, rfl, rfl, rfl, h2, r2⟩ := trodAll_cons r1
  obtain ⟨rfl, rfl, rfl⟩ := trodAll_nil r2
  obtain rfl : args = #[v0, v1, v2] := by cases args; simp_all
  obtain ⟨rfl, rfl⟩ := trodVars_none hV
  obtain ⟨c0, e0, y0, z0, m0, rfl, rfl, rfl, hy0, hz0⟩ := open_agg2 Try.underlying23 (by kernel_rfl) cells23 (hval 0 23 v0 rfl rfl) h0
  obtain ⟨a0, ea0, rfl, w0⟩ := DataW.trod_int Try.underlying2 hy0
  obtain ⟨b0, eb0, rfl, u0⟩ := DataW.trod_int Try.underlying2 hz0
  simp at ea0 eb0
  subst ea0 eb0
  have sr0 : ∀ (W' : World) (sp : Nat → Bool), DataW.Trod enc Try.prog W' 0 sp true 23 (.agg #[.int .i64 a0, .int .i64 b0]) (.agg [.lit (.int .i64 a0), .lit (.int .i64 b0)]) [] := fun W' sp =>
    shut_agg2 (y0 := (.lit (.int .i64 a0), [])) (y1 := (.lit (.int .i64 b0), [])) Try.underlying23 (by kernel_rfl) cells23 ⟨1, by simp [DataW.trod, Try.underlying2, w0]⟩ ⟨1, by simp [DataW.trod, Try.underlying2, u0]⟩
  obtain ⟨a1, rfl, rfl, rfl, w1⟩ := open_int Try.underlying2 (hval 1 2 v1 rfl rfl) h1
  obtain ⟨a2, rfl, rfl, rfl, w2⟩ := open_int Try.underlying2 (hval 2 2 v2 rfl rfl) h2
  clear hA0 hval0
  refine (walk a0 b0 w0 u0 a1 w1 a2 w2 W).mono fun e W' ⟨he, hg⟩ => ?_
  subst he
  exact ⟨_, rfl, _, _, _, [], _, [], hW', trodAll_mk1 (shut_bool Try.underlying4 _), (trodAll_cons_mk (sr0 _ _) (trodAll_cons_mk (shut_int Try.underlying2 w1) (trodAll_cons_mk (shut_int Try.underlying2 w2) trodAll_mk0))), rfl, hg.frame _, fun h => by cases h⟩

theorem over : Rows.spanWholeRow.holds Try.pinned (OpenSpec.ofChange Rows.spanWholeSpec) :=
  OpenClaim.holds_of_wide 5 Try.f5 rfl rfl rfl rfl rfl rfl rfl ⟨rfl, rfl, rfl, rfl, rfl⟩ rfl rfl rfl rfl rfl (by kernel_rfl) Try.func5 (by kernel_rfl)
    (of_decide_eq_true (by kernel_rfl)) (by unfold Func.isWrapper; first | (rw [if_pos (by decide +kernel)]; kernel_rfl) | (rw [if_neg (by decide +kernel)]; exact ⟨rfl, rfl⟩))
    (fun os started H enc _ => lifted os started H enc)

/-- The statement. -/
theorem proved : Rows.SpanWholeSaid := over
end Go.Proofs.Ytfpegfngogkmmab.spanWhole
