/-
  What is wrong with a width and numbers, Floor, Ceil and Bucket of span, the program's and the document's own. Condition: at most 100 numbers are handed in at once.
-/
import Derived.Test.YtfpegfngogkmmabS1
namespace Go.Proofs.Ytfpegfngogkmmab
open Go.RowKit

def intsV (l : List Int) : List Value := l.map (Value.int .i64)
theorem intsV_at (l : List Int) (k : Nat) : (intsV l)[k]? = (l[k]?).map (Value.int .i64) := by simp [intsV]
def errS (n : Int) (l : List Int) : Int := if widthB n = true then (if l.all boundB = true then 0 else 7) else 1
theorem all_stop {l : List Int} {k : Nat} {x : Int} (h : l[k]? = some x) (hx : boundB x = false) : l.all boundB = false := by
  rw [List.all_eq_false]
  exact ⟨x, List.mem_of_getElem? h, by simp [hx]⟩
theorem all_end {l : List Int} (h : ∀ (i : Nat) (x : Int), l[i]? = some x → boundB x = true) : l.all boundB = true := by
  rw [List.all_eq_true]
  intro x hx
  obtain ⟨i, hi⟩ := List.getElem?_of_mem hx
  exact h i x hi
theorem bound_iff (x : Int) : boundB x = true ↔ -4611687117939015680 ≤ x ∧ x ≤ 4611687117939015679 := by simp [boundB]
theorem width_iff (x : Int) : widthB x = true ↔ 1 ≤ x ∧ x ≤ 1099511627776 := by simp [widthB]

set_option maxRecDepth 100000 in
theorem bounded_any (A : Option Addr) (n c : Nat) (l : List Int) (w : World) (hl : l.length = n) (hr : Reads w w.heap.size 1 A n (intsV l)) (hn : n ≤ 100) :
    Calls Try.prog 34 #[.slice A n c] w (RetV (.bool (l.all boundB)) w) := by
  have HR := Lib.hid hr
  have HL := Lib.hid hl
  clear hr hl
  go_enter Try.func34, Try.ntmps34
  go_wp2_with fail
  go_loop [7] (fun i => ∃ k : Nat, k ≤ n ∧ i = .int .i64 (k : Int) ∧ Hid (∀ (i : Nat) (x : Int), i < k → l[i]? = some x → boundB x = true)) (fun i => n - (intOf i).toNat)
  case atStart => exact ⟨0, by omega, rfl, fun i x hi => absurd hi (by omega)⟩
  case round =>
    obtain ⟨k, hk, rfl, Hall⟩ := hrel
    by_cases hkn : k < n
    · obtain ⟨b, off, u, rfl, _, hxk, hcell⟩ := HR.out.spot hkn
      obtain ⟨x, hxx⟩ : ∃ x, l[k]? = some x := ⟨l[k]'(by have := HL.out; omega), List.getElem?_eq_getElem _⟩
      have hux : u = .int .i64 x := by rw [intsV_at, hxx] at hxk; simpa using hxk.symm
      subst hux
      clear hxk
      have HXX := Lib.hid hxx
      clear hxx
      by_cases h1 : x < -4611687117939015680
      · go_wp2_with fail
        go_ret
        exact ⟨ret_bool (all_stop HXX.out (by simp [boundB]; omega)).symm, rfl⟩
      · by_cases h2 : 4611687117939015679 < x
        · go_wp2_with fail
          go_ret
          exact ⟨ret_bool (all_stop HXX.out (by simp [boundB]; omega)).symm, rfl⟩
        · go_wp2_with fail
          go_round
          case rel =>
            refine ⟨k + 1, by omega, by go_num, ?_⟩
            intro i y hi hy
            by_cases hik : i = k
            · subst hik
              rw [HXX.out] at hy
              obtain rfl := Option.some.inj hy
              rw [bound_iff]; omega
            · exact Hall.out i y (by omega) hy
          case measure => simp [intOf]; omega
    · obtain rfl : k = n := by omega
      have HE := Lib.hid (all_end (l := l) (fun i x hi => Hall.out i x (by have := (List.getElem?_eq_some_iff.1 hi).1; have := HL.out; omega) hi))
      go_wp2_with fail
      go_ret
      exact ⟨ret_bool HE.out.symm, rfl⟩

theorem check_any (m : Int) (A : Option Addr) (n c : Nat) (l : List Int) (w : World) (hl : l.length = n) (hr : Reads w w.heap.size 1 A n (intsV l)) (hn : n ≤ 100) :
    Calls Try.prog 28 #[.int .i64 m, .slice A n c] w (RetV (.int .i64 (errS m l)) w) := by
  have HR := Lib.hid hr
  have HL := Lib.hid hl
  clear hr hl
  by_cases h1 : widthB m = true
  · by_cases h2 : l.all boundB = true
    · have HE := Lib.hid (show errS m l = 0 by rw [errS, if_pos h1, if_pos h2])
      go_enter Try.func28, Try.ntmps28
      go_wp2_with (first | (go_at_call 20; refine (width_any _ _).mono ?_; rintro e w' ⟨rfl, rfl⟩) | (go_at_call 34; refine (bounded_any _ _ _ l _ HL.out HR.out hn).mono ?_; rintro e w' ⟨rfl, rfl⟩))
      go_ret
      exact ⟨by rw [HE.out]; rfl, rfl⟩
    · have h2' : l.all boundB = false := by simpa using h2
      have HE := Lib.hid (show errS m l = 7 by rw [errS, if_pos h1, if_neg h2])
      clear h2
      go_enter Try.func28, Try.ntmps28
      go_wp2_with (first | (go_at_call 20; refine (width_any _ _).mono ?_; rintro e w' ⟨rfl, rfl⟩) | (go_at_call 34; refine (bounded_any _ _ _ l _ HL.out HR.out hn).mono ?_; rintro e w' ⟨rfl, rfl⟩))
      go_ret
      exact ⟨by rw [HE.out]; rfl, rfl⟩
  · have h1' : widthB m = false := by simpa using h1
    have HE := Lib.hid (show errS m l = 1 by rw [errS, if_neg h1])
    clear h1
    go_enter Try.func28, Try.ntmps28
    go_wp2_with (first | (go_at_call 20; refine (width_any _ _).mono ?_; rintro e w' ⟨rfl, rfl⟩))
    go_ret
    exact ⟨by rw [HE.out]; rfl, rfl⟩

theorem errS_one {m : Int} (h : widthB m = false) (l : List Int) : errS m l = 1 := by rw [errS, if_neg (by rw [h]; simp)]
theorem errS_seven {m : Int} {l : List Int} (h : widthB m = true) (h2 : l.all boundB = false) : errS m l = 7 := by rw [errS, if_pos h, if_neg (by rw [h2]; simp)]
theorem errS_zero {m : Int} {l : List Int} (h : widthB m = true) (h2 : l.all boundB = true) : errS m l = 0 := by rw [errS, if_pos h, if_pos h2]

set_option maxRecDepth 100000 in
theorem wrong_any (m : Int) (A : Option Addr) (n c : Nat) (l : List Int) (w : World) (hl : l.length = n) (hr : Reads w w.heap.size 1 A n (intsV l)) (hn : n ≤ 100) :
    Calls Try.prog 8 #[.int .i64 m, .slice A n c] w (RetV (.int .i64 (errS m l)) w) := by
  have HR := Lib.hid hr
  have HL := Lib.hid hl
  clear hr hl
  by_cases h0 : widthB m = false
  · have HE := Lib.hid (errS_one h0 l)
    go_enter Try.func8, Try.ntmps8
    go_wp2_with (go_at_call 21; refine (rwidth_any _ _).mono ?_; rintro e w' ⟨rfl, rfl⟩)
    go_ret
    exact ⟨by rw [HE.out]; rfl, rfl⟩
  have h1 : widthB m = true := by simpa using h0
  clear h0
  go_enter Try.func8, Try.ntmps8
  go_wp2_with (go_at_call 21; refine (rwidth_any _ _).mono ?_; rintro e w' ⟨rfl, rfl⟩)
  go_loop [5] (fun i => ∃ k : Nat, k ≤ n ∧ i = .int .i64 (k : Int) ∧ Hid (∀ (i : Nat) (x : Int), i < k → l[i]? = some x → boundB x = true)) (fun i => n - (intOf i).toNat)
  case atStart => exact ⟨0, by omega, rfl, fun i x hi => absurd hi (by omega)⟩
  case round =>
    obtain ⟨k, hk, rfl, Hall⟩ := hrel
    by_cases hkn : k < n
    · obtain ⟨b, off, u, rfl, _, hxk, hcell⟩ := HR.out.spot hkn
      obtain ⟨x, hxx⟩ : ∃ x, l[k]? = some x := ⟨l[k]'(by have := HL.out; omega), List.getElem?_eq_getElem _⟩
      have hux : u = .int .i64 x := by rw [intsV_at, hxx] at hxk; simpa using hxk.symm
      subst hux
      clear hxk
      have HXX := Lib.hid hxx
      clear hxx
      by_cases hb : boundB x = false
      · have HE := Lib.hid (errS_seven h1 (all_stop HXX.out hb))
        go_wp2_with (go_at_call 27; refine (rbound_any _ _).mono ?_; rintro e w' ⟨rfl, rfl⟩)
        go_ret
        exact ⟨by rw [HE.out]; rfl, rfl⟩
      · have hb' : boundB x = true := by simpa using hb
        clear hb
        go_wp2_with (go_at_call 27; refine (rbound_any _ _).mono ?_; rintro e w' ⟨rfl, rfl⟩)
        go_round
        case rel =>
          refine ⟨k + 1, by omega, by go_num, ?_⟩
          intro i y hi hy
          by_cases hik : i = k
          · subst hik
            rw [HXX.out] at hy
            obtain rfl := Option.some.inj hy
            exact hb'
          · exact Hall.out i y (by omega) hy
        case measure => simp [intOf]; omega
    · obtain rfl : k = n := by omega
      have HE := Lib.hid (errS_zero h1 (all_end (l := l) (fun i x hi => Hall.out i x (by have := (List.getElem?_eq_some_iff.1 hi).1; have := HL.out; omega) hi)))
      go_wp2_with fail
      go_ret
      exact ⟨by rw [HE.out]; rfl, rfl⟩

theorem reads_one (w : World) (t : Int) (g : Nat) (hg : g = w.heap.size) : Reads (w.alloc (.cells #[.int .i64 t] 2)) (w.alloc (.cells #[.int .i64 t] 2)).heap.size 1 (some ⟨g, 0, none⟩) 1 (intsV [t]) := by
  subst hg
  refine ⟨rfl, fun _ => ⟨_, rfl, by simp, fun j u hu => ?_⟩⟩
  rw [Addr.add_lit, World.cell?_alloc_at _ _ _ _ rfl]
  rcases j with _ | j
  · simpa [intsV] using hu
  · simp [intsV] at hu
theorem reads_two (w : World) (t s : Int) (g : Nat) (hg : g = w.heap.size) : Reads (w.alloc (.cells #[.int .i64 t, .int .i64 s] 2)) (w.alloc (.cells #[.int .i64 t, .int .i64 s] 2)).heap.size 1 (some ⟨g, 0, none⟩) 2 (intsV [t, s]) := by
  subst hg
  refine ⟨rfl, fun _ => ⟨_, rfl, by simp, fun j u hu => ?_⟩⟩
  rw [Addr.add_lit, World.cell?_alloc_at _ _ _ _ rfl]
  rcases j with _ | _ | j
  · simpa [intsV] using hu
  · simpa [intsV] using hu
  · simp [intsV] at hu
theorem errS_ok {m t : Int} (h : errS m [t] = 0) : (1 ≤ m ∧ m ≤ 1099511627776) ∧ -4611687117939015680 ≤ t ∧ t ≤ 4611687117939015679 := by
  unfold errS at h
  split at h
  · rename_i hw
    split at h
    · rename_i hb
      simp at hb
      exact ⟨(width_iff m).1 hw, (bound_iff t).1 hb⟩
    · simp at h
  · simp at h

/-- What Floor and Ceil answer, of what f reckons. -/
def wholeR (f : Int → Int → Int) (t n : Int) : Int × Int := if errS n [t] = 0 then (f t n, 0) else (0, errS n [t])
def tupV (p : Int × Int) : Value := .tuple #[.int .i64 p.1, .int .i64 p.2]
theorem Floor_any (t n : Int) (w : World) : Calls Try.prog 9 #[.int .i64 t, .int .i64 n] w (Gives (tupV (wholeR floorS t n)) w) := by
  by_cases h : errS n [t] = 0
  · obtain ⟨⟨n1, n2⟩, t1, t2⟩ := errS_ok h
    have HW := Lib.hid (show wholeR floorS t n = (floorS t n, 0) from if_pos h)
    have HE := Lib.hid h
    clear h
    go_enter Try.func9, Try.ntmps9
    go_wp2_with fail
    refine (check_any n _ 1 1 [t] _ rfl (reads_one _ _ _ rfl) (by omega)).mono ?_
    rintro e w' ⟨rfl, rfl⟩
    rw [HE.out]
    go_wp2_with fail
    refine (floor_any _ _ _ t1 t2 n1 n2).mono ?_
    rintro e w' ⟨rfl, rfl⟩
    go_wp2_with fail
    go_ret2
    exact ⟨by rw [HW.out]; rfl, alloc1 _ _⟩
  · obtain ⟨x, hx⟩ : ∃ x, x = errS n [t] := ⟨_, rfl⟩
    have hx0 : (x != 0) = true := by rw [hx]; simpa using h
    have HW := Lib.hid (show wholeR floorS t n = (0, x) by rw [hx]; exact if_neg h)
    have HE := Lib.hid hx
    clear h hx
    go_enter Try.func9, Try.ntmps9
    go_wp2_with fail
    refine (check_any n _ 1 1 [t] _ rfl (reads_one _ _ _ rfl) (by omega)).mono ?_
    rintro e w' ⟨rfl, rfl⟩
    rw [← HE.out]
    go_wp2_with fail
    go_ret2
    exact ⟨by rw [HW.out]; rfl, alloc1 _ _⟩
theorem Ceil_any (t n : Int) (w : World) : Calls Try.prog 10 #[.int .i64 t, .int .i64 n] w (Gives (tupV (wholeR ceilS t n)) w) := by
  by_cases h : errS n [t] = 0
  · obtain ⟨⟨n1, n2⟩, t1, t2⟩ := errS_ok h
    have HW := Lib.hid (show wholeR ceilS t n = (ceilS t n, 0) from if_pos h)
    have HE := Lib.hid h
    clear h
    go_enter Try.func10, Try.ntmps10
    go_wp2_with fail
    refine (check_any n _ 1 1 [t] _ rfl (reads_one _ _ _ rfl) (by omega)).mono ?_
    rintro e w' ⟨rfl, rfl⟩
    rw [HE.out]
    go_wp2_with fail
    refine (ceil_any _ _ _ t1 t2 n1 n2).mono ?_
    rintro e w' ⟨rfl, rfl⟩
    go_wp2_with fail
    go_ret2
    exact ⟨by rw [HW.out]; rfl, alloc1 _ _⟩
  · obtain ⟨x, hx⟩ : ∃ x, x = errS n [t] := ⟨_, rfl⟩
    have hx0 : (x != 0) = true := by rw [hx]; simpa using h
    have HW := Lib.hid (show wholeR ceilS t n = (0, x) by rw [hx]; exact if_neg h)
    have HE := Lib.hid hx
    clear h hx
    go_enter Try.func10, Try.ntmps10
    go_wp2_with fail
    refine (check_any n _ 1 1 [t] _ rfl (reads_one _ _ _ rfl) (by omega)).mono ?_
    rintro e w' ⟨rfl, rfl⟩
    rw [← HE.out]
    go_wp2_with fail
    go_ret2
    exact ⟨by rw [HW.out]; rfl, alloc1 _ _⟩
def bucketR (t n : Int) : (Int × Int) × Int := if errS n [t] = 0 then ((floorS t n, floorS t n + n), 0) else ((0, 0), errS n [t])
def tupS (p : (Int × Int) × Int) : Value := .tuple #[.agg #[.int .i64 p.1.1, .int .i64 p.1.2], .int .i64 p.2]
theorem Bucket_any (t n : Int) (w : World) : Calls Try.prog 11 #[.int .i64 t, .int .i64 n] w (Gives (tupS (bucketR t n)) w) := by
  by_cases h : errS n [t] = 0
  · obtain ⟨⟨n1, n2⟩, t1, t2⟩ := errS_ok h
    have fb := floorS_bd (t := t) n1
    obtain ⟨fb1, fb2⟩ := fb
    have HW := Lib.hid (show bucketR t n = ((floorS t n, floorS t n + n), 0) from if_pos h)
    have HE := Lib.hid h
    clear h
    go_enter Try.func11, Try.ntmps11
    go_wp2_with fail
    refine (check_any n _ 1 1 [t] _ rfl (reads_one _ _ _ (by simp)) (by omega)).mono ?_
    rintro e w' ⟨rfl, rfl⟩
    rw [HE.out]
    go_wp2_with fail
    refine (floor_any _ _ _ t1 t2 n1 n2).mono ?_
    rintro e w' ⟨rfl, rfl⟩
    go_wp2_with fail
    exact bodyPost_ret (v := .tuple #[.agg #[.int .i64 (floorS t n), .int .i64 (floorS t n + n)], .int .i64 0]) (by simp [results, Try.results11, go_sem]) rfl ⟨by rw [HW.out]; rfl, alloc2 _ _ _⟩
  · obtain ⟨x, hx⟩ : ∃ x, x = errS n [t] := ⟨_, rfl⟩
    have hx0 : (x != 0) = true := by rw [hx]; simpa using h
    have HW := Lib.hid (show bucketR t n = ((0, 0), x) by rw [hx]; exact if_neg h)
    have HE := Lib.hid hx
    clear h hx
    go_enter Try.func11, Try.ntmps11
    go_wp2_with fail
    refine (check_any n _ 1 1 [t] _ rfl (reads_one _ _ _ (by simp)) (by omega)).mono ?_
    rintro e w' ⟨rfl, rfl⟩
    rw [← HE.out]
    go_wp2_with fail
    exact bodyPost_ret (v := .tuple #[.agg #[.int .i64 0, .int .i64 0], .int .i64 x]) (by simp [results, Try.results11, go_sem]) rfl ⟨by rw [HW.out]; rfl, alloc2 _ _ _⟩
end Go.Proofs.Ytfpegfngogkmmab
