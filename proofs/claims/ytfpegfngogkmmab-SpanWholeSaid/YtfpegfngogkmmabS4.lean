/-
  The document's own Out and In of spans, of times that are within the bounds and a width; and 'wakes' of the layer's laws answers true.
-/
import Derived.Test.YtfpegfngogkmmabS3
namespace Go.Proofs.Ytfpegfngogkmmab
open Go.RowKit

/-- The document's own: the ends as f and g reckon them, of a span that is not empty. -/
def refS (f g : Int → Int → Int) (a b n : Int) : Int × Int := if b ≤ a then (0, 0) else goodS (f a n) (g b n)
theorem kept2 {w w1 w2 : World} {x y : Value} (h : w1 = (w.alloc (.cells #[x, y] 23)).alloc (.cells #[.int .i64 0, .int .i64 0] 23)) (hb : Below w1.drew.heap.size w1.drew w2) :
    w2.cell? ⟨w.heap.size, 0, none⟩ = some x ∧ w2.cell? ⟨w.heap.size, 1, none⟩ = some y ∧
    w2.cell? ⟨w.heap.size + 1, 0, none⟩ = some (.int .i64 0) ∧ w2.cell? ⟨w.heap.size + 1, 1, none⟩ = some (.int .i64 0) ∧
    w2.frozen? ⟨w.heap.size + 1, 0, none⟩ = false ∧ w2.frozen? ⟨w.heap.size + 1, 1, none⟩ = false ∧ w.heap.size + 1 + 1 ≤ w2.heap.size ∧ Hid (Below w.heap.size w w2) := by
  have hs : w1.drew.heap.size = w.heap.size + 1 + 1 := by subst h; simp
  have hz2 := hb.size
  have l0 : w.heap.size < w1.drew.heap.size := by omega
  have l1 : w.heap.size + 1 < w1.drew.heap.size := by omega
  have b0 : Below w.heap.size w w1 := by subst h; exact alloc2 _ _ _
  refine ⟨(hb.cell l0).trans ?_, (hb.cell l0).trans ?_, (hb.cell l1).trans ?_, (hb.cell l1).trans ?_, (hb.frozen l1).trans ?_, (hb.frozen l1).trans ?_, by omega, Below.trans b0.drew (hb.mono (by omega))⟩
  all_goals subst h; simp [go_sem]

set_option maxRecDepth 100000 in
set_option maxHeartbeats 1000000 in
theorem rout_any (a b n : Int) (w : World) (a1 : -4611687117939015680 ≤ a) (a2 : a ≤ 4611687117939015679) (b1 : -4611687117939015680 ≤ b) (b2 : b ≤ 4611687117939015679) (n1 : 1 ≤ n) (n2 : n ≤ 1099511627776) :
    Calls Try.prog 16 #[.agg #[.int .i64 a, .int .i64 b], .int .i64 n] w (Gives (spanV (refS floorS ceilS a b n)) w) := by
  by_cases hab : b ≤ a
  · have HW := Lib.hid (show refS floorS ceilS a b n = (0, 0) from if_pos hab)
    go_enter Try.func16, Try.ntmps16
    go_wp2_with fail
    exact bodyPost_ret (v := .agg #[.int .i64 0, .int .i64 0]) (by simp [results, Try.results16, go_sem]) rfl ⟨by rw [HW.out]; rfl, alloc2 _ _ _⟩
  · have HW := Lib.hid (show refS floorS ceilS a b n = goodS (floorS a n) (ceilS b n) from if_neg hab)
    go_enter Try.func16, Try.ntmps16
    go_wp2_with fail
    obtain ⟨w1, hw1⟩ : ∃ w1, w1 = (w.alloc (.cells #[.int .i64 a, .int .i64 b] 23)).alloc (.cells #[.int .i64 0, .int .i64 0] 23) := ⟨_, rfl⟩
    have e0 : w1.cell? ⟨w.heap.size, 0, none⟩ = some (.int .i64 a) := by rw [hw1]; simp [go_sem]
    have e1 : w1.cell? ⟨w.heap.size, 1, none⟩ = some (.int .i64 b) := by rw [hw1]; simp [go_sem]
    rw [← hw1]
    have HW1 := Lib.hid hw1
    clear hw1
    have hne1 : ¬ w.heap.size = w.heap.size + 1 := by omega
    have hne2 : ¬ w.heap.size + 1 = w.heap.size := by omega
    go_region_held3 (fun w' => w'.cell? ⟨w.heap.size, 0, none⟩ = some (.int .i64 a) ∧ w'.cell? ⟨w.heap.size, 1, none⟩ = some (.int .i64 b)) (go_keep)
      (first
        | (go_at_call 12; refine (rfloor_any _ _ _ a1 a2 n1 n2).mono ?_; rintro e w' ⟨rfl, rfl⟩)
        | (go_at_call 13; refine (rceil_any _ _ _ b1 b2 n1 n2).mono ?_; rintro e w' ⟨rfl, rfl⟩)
        | (go_at_call 32; refine (good_any _ _ _).mono ?_; rintro e w2 ⟨rfl, hb2⟩; obtain ⟨d0, d1, d3, d4, d5, d6, d7, d8⟩ := kept2 HW1.out hb2; simp only [spanV]))
    go_wp2_with fail
    exact bodyPost_ret (v := spanV (goodS (floorS a n) (ceilS b n))) (by simp [results, Try.results16, go_sem, d3, d4, spanV]) rfl ⟨by rw [HW.out], (d8.out.setCell (by simp) _).setCell (by simp) _⟩
set_option maxRecDepth 100000 in
set_option maxHeartbeats 1000000 in
theorem rin_any (a b n : Int) (w : World) (a1 : -4611687117939015680 ≤ a) (a2 : a ≤ 4611687117939015679) (b1 : -4611687117939015680 ≤ b) (b2 : b ≤ 4611687117939015679) (n1 : 1 ≤ n) (n2 : n ≤ 1099511627776) :
    Calls Try.prog 17 #[.agg #[.int .i64 a, .int .i64 b], .int .i64 n] w (Gives (spanV (refS ceilS floorS a b n)) w) := by
  by_cases hab : b ≤ a
  · have HW := Lib.hid (show refS ceilS floorS a b n = (0, 0) from if_pos hab)
    go_enter Try.func17, Try.ntmps17
    go_wp2_with fail
    exact bodyPost_ret (v := .agg #[.int .i64 0, .int .i64 0]) (by simp [results, Try.results17, go_sem]) rfl ⟨by rw [HW.out]; rfl, alloc2 _ _ _⟩
  · have HW := Lib.hid (show refS ceilS floorS a b n = goodS (ceilS a n) (floorS b n) from if_neg hab)
    go_enter Try.func17, Try.ntmps17
    go_wp2_with fail
    obtain ⟨w1, hw1⟩ : ∃ w1, w1 = (w.alloc (.cells #[.int .i64 a, .int .i64 b] 23)).alloc (.cells #[.int .i64 0, .int .i64 0] 23) := ⟨_, rfl⟩
    have e0 : w1.cell? ⟨w.heap.size, 0, none⟩ = some (.int .i64 a) := by rw [hw1]; simp [go_sem]
    have e1 : w1.cell? ⟨w.heap.size, 1, none⟩ = some (.int .i64 b) := by rw [hw1]; simp [go_sem]
    rw [← hw1]
    have HW1 := Lib.hid hw1
    clear hw1
    have hne1 : ¬ w.heap.size = w.heap.size + 1 := by omega
    have hne2 : ¬ w.heap.size + 1 = w.heap.size := by omega
    go_region_held3 (fun w' => w'.cell? ⟨w.heap.size, 0, none⟩ = some (.int .i64 a) ∧ w'.cell? ⟨w.heap.size, 1, none⟩ = some (.int .i64 b)) (go_keep)
      (first
        | (go_at_call 12; refine (rfloor_any _ _ _ b1 b2 n1 n2).mono ?_; rintro e w' ⟨rfl, rfl⟩)
        | (go_at_call 13; refine (rceil_any _ _ _ a1 a2 n1 n2).mono ?_; rintro e w' ⟨rfl, rfl⟩)
        | (go_at_call 32; refine (good_any _ _ _).mono ?_; rintro e w2 ⟨rfl, hb2⟩; obtain ⟨d0, d1, d3, d4, d5, d6, d7, d8⟩ := kept2 HW1.out hb2; simp only [spanV]))
    go_wp2_with fail
    exact bodyPost_ret (v := spanV (goodS (ceilS a n) (floorS b n))) (by simp [results, Try.results17, go_sem, d3, d4, spanV]) rfl ⟨by rw [HW.out], (d8.out.setCell (by simp) _).setCell (by simp) _⟩

theorem keep_cell {w3 w4 : World} {o : Obj} {p : Addr} {x : Value} (hb : Below (w3.alloc o).heap.size (w3.alloc o) w4) (hc : w3.cell? p = some x) (hp : p.block < w3.heap.size) : w4.cell? p = some x :=
  (hb.cell (by simp; omega)).trans ((World.cell?_alloc_lt w3 o p hp).trans hc)
def TrueB (w : World) (e : Ending) (w' : World) : Prop := e = .returned (.bool true) ∧ Below w.heap.size w w'
theorem k1 : wholeR floorS (-7) 5 = (-10, 0) := by decide +kernel
theorem k2 : wholeS floorS ceilS 3 12 5 = ((0, 15), 0) := by decide +kernel
theorem k3 : wholeS ceilS floorS 3 12 5 = ((5, 10), 0) := by decide +kernel
theorem k4 : wholeR floorS 5 0 = (0, 1) := by decide +kernel
theorem k5 : timeB 0 = true := by decide
theorem k6 : widthB 0 = false := by decide
theorem wakes_any (w : World) : Calls Try.prog 26 #[] w (TrueB w) := by
  have K1 := Lib.hid k1
  have K2 := Lib.hid k2
  have K3 := Lib.hid k3
  have K4 := Lib.hid k4
  go_enter Try.func26, Try.ntmps26
  go_wp2_with fail
  refine (Floor_any _ _ _).mono ?_
  rintro e w1 ⟨rfl, hb1⟩
  rw [K1.out]
  simp only [tupV]
  have Hb1 := Lib.hid hb1
  clear hb1
  go_wp2_with fail
  refine (Out_any _ _ _ _).mono ?_
  rintro e w2 ⟨rfl, hb2⟩
  rw [K2.out]
  simp only [tupS]
  have Hb2 := Lib.hid hb2
  clear hb2
  go_wp2_with fail
  refine (In_any _ _ _ _).mono ?_
  rintro e w3 ⟨rfl, hb3⟩
  rw [K3.out]
  simp only [tupS]
  obtain ⟨c0, c1, -, -⟩ := res_cells (g := w2.heap.size) _ _ _ rfl hb3
  have hz3 := hb3.size
  simp at hz3
  have Hb3 := Lib.hid hb3
  clear hb3
  go_wp2_with fail
  refine (Floor_any _ _ _).mono ?_
  rintro e w4 ⟨rfl, hb4⟩
  rw [K4.out]
  simp only [tupV]
  obtain ⟨d0, d1, -, -⟩ := res_cells (g := w3.heap.size) _ _ _ rfl hb4
  have f0 := keep_cell hb4 c0 (by show w2.heap.size < w3.heap.size; omega)
  have f1 := keep_cell hb4 c1 (by show w2.heap.size < w3.heap.size; omega)
  have Hb4 := Lib.hid hb4
  clear hb4 c0 c1
  have h5 := k5
  have h6 := k6
  go_wp2_with fail
  refine (time_any _ _).mono ?_
  rintro e w' ⟨rfl, rfl⟩
  rw [h5]
  go_wp2_with fail
  refine (width_any _ _).mono ?_
  rintro e w' ⟨rfl, rfl⟩
  rw [h6]
  go_wp2_with fail
  go_ret
  have s1 := Hb1.out
  have s2 := Hb2.out
  have s3 := Hb3.out
  have s4 := Hb4.out
  have z1 := s1.size
  have z2 := s2.size
  have z3 := s3.size
  simp at z3
  have s3' := (alloc1 w2 _).trans (s3.mono (by simp))
  have s4' := (alloc1 w3 _).trans (s4.mono (by simp))
  exact ⟨rfl, s1.trans ((s2.mono z1).trans ((s3'.mono (by omega)).trans (s4'.mono (by omega))))⟩
end Go.Proofs.Ytfpegfngogkmmab
