/-
  Out and In of span, the program's and the document's own. No condition.
-/
import Derived.Test.YtfpegfngogkmmabS2
import Derived.Deep.RegionHeld3
import Derived.RegionCalls
namespace Go.Proofs.Ytfpegfngogkmmab
open Go.RowKit

theorem clo_floor (t n : Int) (p : Addr) (w : World) (hc : w.cell? p = some (.int .i64 n)) (h1 : -4611687117939015680 ≤ t) (h2 : t ≤ 4611687117939015679) (n1 : 1 ≤ n) (n2 : n ≤ 1099511627776) :
    Calls Try.prog 35 #[.func (.func 29) #[] #[], .int .i64 t, .pointer (some p)] w (RetV (.int .i64 (floorS t n)) w) := by
  go_enter Try.func35, Try.ntmps35
  go_wp2_with (go_at_call 29; refine (floor_any _ _ _ h1 h2 n1 n2).mono ?_; rintro e w' ⟨rfl, rfl⟩)
  go_ret
  exact ⟨rfl, rfl⟩
theorem clo_ceil (t n : Int) (p : Addr) (w : World) (hc : w.cell? p = some (.int .i64 n)) (h1 : -4611687117939015680 ≤ t) (h2 : t ≤ 4611687117939015679) (n1 : 1 ≤ n) (n2 : n ≤ 1099511627776) :
    Calls Try.prog 35 #[.func (.func 30) #[] #[], .int .i64 t, .pointer (some p)] w (RetV (.int .i64 (ceilS t n)) w) := by
  go_enter Try.func35, Try.ntmps35
  go_wp2_with (go_at_call 30; refine (ceil_any _ _ _ h1 h2 n1 n2).mono ?_; rintro e w' ⟨rfl, rfl⟩)
  go_ret
  exact ⟨rfl, rfl⟩
theorem errS_ok2 {m a b : Int} (h : errS m [a, b] = 0) : (1 ≤ m ∧ m ≤ 1099511627776) ∧ (-4611687117939015680 ≤ a ∧ a ≤ 4611687117939015679) ∧ (-4611687117939015680 ≤ b ∧ b ≤ 4611687117939015679) := by
  unfold errS at h
  split at h
  · rename_i hw
    split at h
    · rename_i hb
      simp at hb
      exact ⟨(width_iff m).1 hw, (bound_iff a).1 hb.1, (bound_iff b).1 hb.2⟩
    · simp at h
  · simp at h
/-- What Out and In answer: the ends as f and g reckon them. -/
def wholeS (f g : Int → Int → Int) (a b n : Int) : (Int × Int) × Int :=
  if errS n [a, b] = 0 then (if b ≤ a then ((0, 0), 0) else (goodS (f a n) (g b n), 0)) else ((0, 0), errS n [a, b])

abbrev wholeW (w : World) (a b n : Int) : World :=
  (((w.alloc (.cells #[.int .i64 a, .int .i64 b] 23)).alloc (.cells #[.int .i64 n] 2)).alloc (.cells #[.int .i64 0, .int .i64 0] 23)).alloc (.cells #[.int .i64 a, .int .i64 b] 2)
theorem whole_cells {w w1 : World} {a b n : Int} (hb : Below (wholeW w a b n).heap.size (wholeW w a b n) w1) :
    w1.cell? ⟨w.heap.size, 0, none⟩ = some (.int .i64 a) ∧ w1.cell? ⟨w.heap.size, 1, none⟩ = some (.int .i64 b) ∧ w1.cell? ⟨w.heap.size + 1, 0, none⟩ = some (.int .i64 n) ∧
    w1.cell? ⟨w.heap.size + 1 + 1, 0, none⟩ = some (.int .i64 0) ∧ w1.cell? ⟨w.heap.size + 1 + 1, 1, none⟩ = some (.int .i64 0) ∧
    w1.frozen? ⟨w.heap.size + 1 + 1, 0, none⟩ = false ∧ w1.frozen? ⟨w.heap.size + 1 + 1, 1, none⟩ = false ∧ w.heap.size + 1 + 1 + 1 + 1 ≤ w1.heap.size ∧ Below w.heap.size w w1 := by
  have hz := hb.size
  refine ⟨?_, ?_, ?_, ?_, ?_, ?_, ?_, ?_, (alloc4 w _ _ _ _).trans (hb.mono (by simp; omega))⟩
  · rw [hb.cell (by simp <;> omega)]; simp [go_sem]
  · rw [hb.cell (by simp <;> omega)]; simp [go_sem]
  · rw [hb.cell (by simp <;> omega)]; simp [go_sem]
  · rw [hb.cell (by simp <;> omega)]; simp [go_sem]
  · rw [hb.cell (by simp <;> omega)]; simp [go_sem]
  · rw [hb.frozen (by simp <;> omega)]; simp [go_sem]
  · rw [hb.frozen (by simp <;> omega)]; simp [go_sem]
  · simp at hz; omega

theorem kept_cells {w w1 w2 : World} {a b n : Int} (e0 : w1.cell? ⟨w.heap.size, 0, none⟩ = some (.int .i64 a)) (e1 : w1.cell? ⟨w.heap.size, 1, none⟩ = some (.int .i64 b)) (e2 : w1.cell? ⟨w.heap.size + 1, 0, none⟩ = some (.int .i64 n))
    (c0 : w1.cell? ⟨w.heap.size + 1 + 1, 0, none⟩ = some (.int .i64 0)) (c1 : w1.cell? ⟨w.heap.size + 1 + 1, 1, none⟩ = some (.int .i64 0))
    (f0 : w1.frozen? ⟨w.heap.size + 1 + 1, 0, none⟩ = false) (f1 : w1.frozen? ⟨w.heap.size + 1 + 1, 1, none⟩ = false) (hz : w.heap.size + 1 + 1 + 1 + 1 ≤ w1.heap.size) (Hb : Hid (Below w.heap.size w w1))
    (hb : Below w1.drew.heap.size w1.drew w2) :
    w2.cell? ⟨w.heap.size, 0, none⟩ = some (.int .i64 a) ∧ w2.cell? ⟨w.heap.size, 1, none⟩ = some (.int .i64 b) ∧ w2.cell? ⟨w.heap.size + 1, 0, none⟩ = some (.int .i64 n) ∧
    w2.cell? ⟨w.heap.size + 1 + 1, 0, none⟩ = some (.int .i64 0) ∧ w2.cell? ⟨w.heap.size + 1 + 1, 1, none⟩ = some (.int .i64 0) ∧
    w2.frozen? ⟨w.heap.size + 1 + 1, 0, none⟩ = false ∧ w2.frozen? ⟨w.heap.size + 1 + 1, 1, none⟩ = false ∧ w.heap.size + 1 + 1 + 1 + 1 ≤ w2.heap.size ∧ Hid (Below w.heap.size w w2) := by
  have hs : w1.drew.heap.size = w1.heap.size := rfl
  have hz2 := hb.size
  have l0 : w.heap.size < w1.drew.heap.size := by omega
  have l1 : w.heap.size + 1 < w1.drew.heap.size := by omega
  have l2 : w.heap.size + 1 + 1 < w1.drew.heap.size := by omega
  exact ⟨(hb.cell l0).trans e0, (hb.cell l0).trans e1, (hb.cell l1).trans e2, (hb.cell l2).trans c0, (hb.cell l2).trans c1, (hb.frozen l2).trans f0, (hb.frozen l2).trans f1, by omega,
    Below.trans Hb.out.drew (hb.mono (by omega))⟩

set_option maxRecDepth 100000 in
set_option maxHeartbeats 1000000 in
theorem whole_out (a b n : Int) (w : World) : Calls Try.prog 31 #[.agg #[.int .i64 a, .int .i64 b], .int .i64 n, .func (.func 29) #[] #[], .func (.func 30) #[] #[]] w (Gives (tupS (wholeS floorS ceilS a b n)) w) := by
  have hmf : ∀ (fn : Fn) (first cap : Array Value) (w : World), (Instr.makeFunc fn first cap).run Try.prog w = .ok (.func fn first cap) w := fun _ _ _ _ => rfl
  by_cases h : errS n [a, b] = 0
  · obtain ⟨⟨n1, n2⟩, ⟨a1, a2⟩, b1, b2⟩ := errS_ok2 h
    have HE := Lib.hid h
    by_cases hab : b ≤ a
    · have hem : emptyB a b = true := by simp [emptyB]; omega
      have HW := Lib.hid (show wholeS floorS ceilS a b n = ((0, 0), 0) by rw [wholeS, if_pos h, if_pos hab])
      clear h
      go_enter Try.func31, Try.ntmps31
      go_wp2_with fail
      refine (check_any n _ 2 2 [a, b] _ rfl (reads_two _ _ _ _ (by simp)) (by omega)).mono ?_
      rintro e w' ⟨rfl, rfl⟩
      rw [HE.out]
      go_wp2_with fail
      refine (empty_any _ _ _).mono ?_
      rintro e w1 ⟨rfl, hb⟩
      rw [hem]
      obtain ⟨-, -, -, c0, c1, f0, f1, hz, hbb⟩ := whole_cells hb
      have Hb := Lib.hid hbb
      clear hb hbb
      go_wp2_with fail
      refine bodyPost_ret (v := .tuple #[.agg #[.int .i64 0, .int .i64 0], .int .i64 0]) (by simp [results, Try.results31, go_sem, c0, c1]) rfl ⟨by rw [HW.out]; rfl, ?_⟩
      exact (Hb.out.setCell (by simp; omega) _).setCell (by simp; omega) _
    · have hem : emptyB a b = false := by simp [emptyB]; omega
      have HW := Lib.hid (show wholeS floorS ceilS a b n = (goodS (floorS a n) (ceilS b n), 0) by rw [wholeS, if_pos h, if_neg hab])
      clear h
      go_enter Try.func31, Try.ntmps31
      go_wp2_with fail
      refine (check_any n _ 2 2 [a, b] _ rfl (reads_two _ _ _ _ (by simp)) (by omega)).mono ?_
      rintro e w' ⟨rfl, rfl⟩
      rw [HE.out]
      go_wp2_with fail
      refine (empty_any _ _ _).mono ?_
      rintro e w1 ⟨rfl, hb⟩
      rw [hem]
      obtain ⟨e0, e1, e2, c0, c1, f0, f1, hz, hbb⟩ := whole_cells hb
      have Hb := Lib.hid hbb
      clear hb hbb
      go_wp2_with fail
      have hne1 : ¬ w.heap.size = w.heap.size + 1 + 1 := by omega
      have hne2 : ¬ w.heap.size + 1 + 1 = w.heap.size := by omega
      go_region_held3 (fun w' => w'.cell? ⟨w.heap.size, 0, none⟩ = some (.int .i64 a) ∧ w'.cell? ⟨w.heap.size, 1, none⟩ = some (.int .i64 b) ∧ w'.cell? ⟨w.heap.size + 1, 0, none⟩ = some (.int .i64 n)) (go_keep)
        (first
          | (go_at_call_of 35 (Value.func (Fn.func 29) #[] #[]); refine (clo_floor a n _ _ ?_ a1 a2 n1 n2).mono ?_; (simp [*]); rintro e w' ⟨rfl, rfl⟩)
          | (go_at_call_of 35 (Value.func (Fn.func 30) #[] #[]); refine (clo_ceil b n _ _ ?_ b1 b2 n1 n2).mono ?_; (simp [*]); rintro e w' ⟨rfl, rfl⟩)
          | (go_at_call 33; refine (orzero_any _ _ _).mono ?_; rintro e w2 ⟨rfl, hb2⟩; obtain ⟨d0, d1, d2, d3, d4, d5, d6, d7, d8⟩ := kept_cells e0 e1 e2 c0 c1 f0 f1 hz Hb hb2; simp only [spanV]))
      go_wp2_with fail
      exact bodyPost_ret (v := tupS (goodS (floorS a n) (ceilS b n), 0)) (by simp [results, Try.results31, go_sem, d3, d4, tupS]) rfl ⟨by rw [HW.out], (d8.out.setCell (by simp; omega) _).setCell (by simp; omega) _⟩
  · obtain ⟨x, hx⟩ : ∃ x, x = errS n [a, b] := ⟨_, rfl⟩
    have hx0 : (x != 0) = true := by rw [hx]; simpa using h
    have HW := Lib.hid (show wholeS floorS ceilS a b n = ((0, 0), x) by rw [hx]; exact if_neg h)
    have HE := Lib.hid hx
    clear h hx
    go_enter Try.func31, Try.ntmps31
    go_wp2_with fail
    refine (check_any n _ 2 2 [a, b] _ rfl (reads_two _ _ _ _ (by simp)) (by omega)).mono ?_
    rintro e w' ⟨rfl, rfl⟩
    rw [← HE.out]
    go_wp2_with fail
    exact bodyPost_ret (v := .tuple #[.agg #[.int .i64 0, .int .i64 0], .int .i64 x]) (by simp [results, Try.results31, go_sem]) rfl ⟨by rw [HW.out]; rfl, alloc4 _ _ _ _ _⟩
set_option maxRecDepth 100000 in
set_option maxHeartbeats 1000000 in
theorem whole_in (a b n : Int) (w : World) : Calls Try.prog 31 #[.agg #[.int .i64 a, .int .i64 b], .int .i64 n, .func (.func 30) #[] #[], .func (.func 29) #[] #[]] w (Gives (tupS (wholeS ceilS floorS a b n)) w) := by
  have hmf : ∀ (fn : Fn) (first cap : Array Value) (w : World), (Instr.makeFunc fn first cap).run Try.prog w = .ok (.func fn first cap) w := fun _ _ _ _ => rfl
  by_cases h : errS n [a, b] = 0
  · obtain ⟨⟨n1, n2⟩, ⟨a1, a2⟩, b1, b2⟩ := errS_ok2 h
    have HE := Lib.hid h
    by_cases hab : b ≤ a
    · have hem : emptyB a b = true := by simp [emptyB]; omega
      have HW := Lib.hid (show wholeS ceilS floorS a b n = ((0, 0), 0) by rw [wholeS, if_pos h, if_pos hab])
      clear h
      go_enter Try.func31, Try.ntmps31
      go_wp2_with fail
      refine (check_any n _ 2 2 [a, b] _ rfl (reads_two _ _ _ _ (by simp)) (by omega)).mono ?_
      rintro e w' ⟨rfl, rfl⟩
      rw [HE.out]
      go_wp2_with fail
      refine (empty_any _ _ _).mono ?_
      rintro e w1 ⟨rfl, hb⟩
      rw [hem]
      obtain ⟨-, -, -, c0, c1, f0, f1, hz, hbb⟩ := whole_cells hb
      have Hb := Lib.hid hbb
      clear hb hbb
      go_wp2_with fail
      refine bodyPost_ret (v := .tuple #[.agg #[.int .i64 0, .int .i64 0], .int .i64 0]) (by simp [results, Try.results31, go_sem, c0, c1]) rfl ⟨by rw [HW.out]; rfl, ?_⟩
      exact (Hb.out.setCell (by simp; omega) _).setCell (by simp; omega) _
    · have hem : emptyB a b = false := by simp [emptyB]; omega
      have HW := Lib.hid (show wholeS ceilS floorS a b n = (goodS (ceilS a n) (floorS b n), 0) by rw [wholeS, if_pos h, if_neg hab])
      clear h
      go_enter Try.func31, Try.ntmps31
      go_wp2_with fail
      refine (check_any n _ 2 2 [a, b] _ rfl (reads_two _ _ _ _ (by simp)) (by omega)).mono ?_
      rintro e w' ⟨rfl, rfl⟩
      rw [HE.out]
      go_wp2_with fail
      refine (empty_any _ _ _).mono ?_
      rintro e w1 ⟨rfl, hb⟩
      rw [hem]
      obtain ⟨e0, e1, e2, c0, c1, f0, f1, hz, hbb⟩ := whole_cells hb
      have Hb := Lib.hid hbb
      clear hb hbb
      go_wp2_with fail
      have hne1 : ¬ w.heap.size = w.heap.size + 1 + 1 := by omega
      have hne2 : ¬ w.heap.size + 1 + 1 = w.heap.size := by omega
      go_region_held3 (fun w' => w'.cell? ⟨w.heap.size, 0, none⟩ = some (.int .i64 a) ∧ w'.cell? ⟨w.heap.size, 1, none⟩ = some (.int .i64 b) ∧ w'.cell? ⟨w.heap.size + 1, 0, none⟩ = some (.int .i64 n)) (go_keep)
        (first
          | (go_at_call_of 35 (Value.func (Fn.func 29) #[] #[]); refine (clo_floor b n _ _ ?_ b1 b2 n1 n2).mono ?_; (simp [*]); rintro e w' ⟨rfl, rfl⟩)
          | (go_at_call_of 35 (Value.func (Fn.func 30) #[] #[]); refine (clo_ceil a n _ _ ?_ a1 a2 n1 n2).mono ?_; (simp [*]); rintro e w' ⟨rfl, rfl⟩)
          | (go_at_call 33; refine (orzero_any _ _ _).mono ?_; rintro e w2 ⟨rfl, hb2⟩; obtain ⟨d0, d1, d2, d3, d4, d5, d6, d7, d8⟩ := kept_cells e0 e1 e2 c0 c1 f0 f1 hz Hb hb2; simp only [spanV]))
      go_wp2_with fail
      exact bodyPost_ret (v := tupS (goodS (ceilS a n) (floorS b n), 0)) (by simp [results, Try.results31, go_sem, d3, d4, tupS]) rfl ⟨by rw [HW.out], (d8.out.setCell (by simp; omega) _).setCell (by simp; omega) _⟩
  · obtain ⟨x, hx⟩ : ∃ x, x = errS n [a, b] := ⟨_, rfl⟩
    have hx0 : (x != 0) = true := by rw [hx]; simpa using h
    have HW := Lib.hid (show wholeS ceilS floorS a b n = ((0, 0), x) by rw [hx]; exact if_neg h)
    have HE := Lib.hid hx
    clear h hx
    go_enter Try.func31, Try.ntmps31
    go_wp2_with fail
    refine (check_any n _ 2 2 [a, b] _ rfl (reads_two _ _ _ _ (by simp)) (by omega)).mono ?_
    rintro e w' ⟨rfl, rfl⟩
    rw [← HE.out]
    go_wp2_with fail
    exact bodyPost_ret (v := .tuple #[.agg #[.int .i64 0, .int .i64 0], .int .i64 x]) (by simp [results, Try.results31, go_sem]) rfl ⟨by rw [HW.out]; rfl, alloc4 _ _ _ _ _⟩
theorem Out_any (a b n : Int) (w : World) : Calls Try.prog 14 #[.agg #[.int .i64 a, .int .i64 b], .int .i64 n] w (Gives (tupS (wholeS floorS ceilS a b n)) w) := by
  go_enter Try.func14, Try.ntmps14
  go_wp2_with fail
  refine (whole_out _ _ _ _).mono ?_
  rintro e w1 ⟨rfl, hb⟩
  obtain ⟨c0, c1, f0, f1⟩ := res_cells (g := w.heap.size + 1) _ _ _ (by simp) hb
  have hz := hb.size
  simp at hz
  have Hb := Lib.hid ((alloc2 _ _ _).trans (hb.mono (by simp; omega)))
  clear hb
  generalize hp : wholeS floorS ceilS a b n = p
  have HP := Lib.hid hp
  clear hp
  simp only [tupS]
  go_wp2_with fail
  exact bodyPost_ret (v := tupS p) (by simp [results, Try.results14, go_sem, c0, c1, tupS]) rfl ⟨by rw [HP.out], (Hb.out.setCell (by simp) _).setCell (by simp) _⟩
theorem In_any (a b n : Int) (w : World) : Calls Try.prog 15 #[.agg #[.int .i64 a, .int .i64 b], .int .i64 n] w (Gives (tupS (wholeS ceilS floorS a b n)) w) := by
  go_enter Try.func15, Try.ntmps15
  go_wp2_with fail
  refine (whole_in _ _ _ _).mono ?_
  rintro e w1 ⟨rfl, hb⟩
  obtain ⟨c0, c1, f0, f1⟩ := res_cells (g := w.heap.size + 1) _ _ _ (by simp) hb
  have hz := hb.size
  simp at hz
  have Hb := Lib.hid ((alloc2 _ _ _).trans (hb.mono (by simp; omega)))
  clear hb
  generalize hp : wholeS ceilS floorS a b n = p
  have HP := Lib.hid hp
  clear hp
  simp only [tupS]
  go_wp2_with fail
  exact bodyPost_ret (v := tupS p) (by simp [results, Try.results15, go_sem, c0, c1, tupS]) rfl ⟨by rw [HP.out], (Hb.out.setCell (by simp) _).setCell (by simp) _⟩
end Go.Proofs.Ytfpegfngogkmmab
