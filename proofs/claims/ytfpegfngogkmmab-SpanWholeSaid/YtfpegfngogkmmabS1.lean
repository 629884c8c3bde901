/-
  What the small calls of span answer, the program's and the document's own: times, widths, floors, ceilings, empty spans. Conditions: where a floor is reckoned, the time is within the bounds and the width is one.
-/
import Derived.Test.YtfpegfngogkmmabRows
import Derived.Test.YtfpegfngogkmmabWords
import Derived.OpenShut
namespace Go.Proofs.Ytfpegfngogkmmab
open Go.RowKit

def RetV (v : Value) (w : World) (e : Ending) (w' : World) : Prop := e = .returned v ∧ w = w'
/-- The call answers v, and what was there is as it was. -/
def Gives (v : Value) (w : World) (e : Ending) (w' : World) : Prop := e = .returned v ∧ Below w.heap.size w w'
theorem ret_int {k : IntKind} {a b : Int} (h : a = b) : Ending.returned (.int k a) = .returned (.int k b) := by rw [h]
theorem ret_bool {a b : Bool} (h : a = b) : Ending.returned (.bool a) = .returned (.bool b) := by rw [h]

def timeB (t : Int) : Bool := decide (-4611686018427387904 ≤ t ∧ t ≤ 4611686018427387903)
def widthB (n : Int) : Bool := decide (1 ≤ n ∧ n ≤ 1099511627776)
def boundB (t : Int) : Bool := decide (-4611687117939015680 ≤ t ∧ t ≤ 4611687117939015679)
def floorS (t n : Int) : Int := t - t % n
def ceilS (t n : Int) : Int := if floorS t n < t then floorS t n + n else floorS t n

theorem time_any (t : Int) (w : World) : Calls Try.prog 18 #[.int .i64 t] w (RetV (.bool (timeB t)) w) := by
  by_cases h1 : -4611686018427387904 ≤ t
  · by_cases h2 : t ≤ 4611686018427387903
    all_goals
      go_enter Try.func18, Try.ntmps18
      go_wp2
      go_ret
      exact ⟨ret_bool (by simp [timeB]; omega), rfl⟩
  · go_enter Try.func18, Try.ntmps18
    go_wp2
    go_ret
    exact ⟨ret_bool (by simp [timeB]; omega), rfl⟩
theorem rtime_any (t : Int) (w : World) : Calls Try.prog 19 #[.int .i64 t] w (RetV (.bool (timeB t)) w) := by
  by_cases h1 : -4611686018427387904 ≤ t
  · by_cases h2 : t ≤ 4611686018427387903
    all_goals
      go_enter Try.func19, Try.ntmps19
      go_wp2
      go_ret
      exact ⟨ret_bool (by simp [timeB]; omega), rfl⟩
  · go_enter Try.func19, Try.ntmps19
    go_wp2
    go_ret
    exact ⟨ret_bool (by simp [timeB]; omega), rfl⟩
theorem width_any (t : Int) (w : World) : Calls Try.prog 20 #[.int .i64 t] w (RetV (.bool (widthB t)) w) := by
  by_cases h1 : 1 ≤ t
  · by_cases h2 : t ≤ 1099511627776
    all_goals
      go_enter Try.func20, Try.ntmps20
      go_wp2
      go_ret
      exact ⟨ret_bool (by simp [widthB]; omega), rfl⟩
  · go_enter Try.func20, Try.ntmps20
    go_wp2
    go_ret
    exact ⟨ret_bool (by simp [widthB]; omega), rfl⟩
theorem rwidth_any (t : Int) (w : World) : Calls Try.prog 21 #[.int .i64 t] w (RetV (.bool (widthB t)) w) := by
  by_cases h1 : 1 ≤ t
  · by_cases h2 : t ≤ 1099511627776
    all_goals
      go_enter Try.func21, Try.ntmps21
      go_wp2
      go_ret
      exact ⟨ret_bool (by simp [widthB]; omega), rfl⟩
  · go_enter Try.func21, Try.ntmps21
    go_wp2
    go_ret
    exact ⟨ret_bool (by simp [widthB]; omega), rfl⟩
theorem rbound_any (t : Int) (w : World) : Calls Try.prog 27 #[.int .i64 t] w (RetV (.bool (boundB t)) w) := by
  by_cases h1 : -4611687117939015680 ≤ t
  · by_cases h2 : t ≤ 4611687117939015679
    all_goals
      go_enter Try.func27, Try.ntmps27
      go_wp2
      go_ret
      exact ⟨ret_bool (by simp [boundB]; omega), rfl⟩
  · go_enter Try.func27, Try.ntmps27
    go_wp2
    go_ret
    exact ⟨ret_bool (by simp [boundB]; omega), rfl⟩

theorem tmod_pos {t n : Int} (h : 0 ≤ t) : t.tmod n = t % n := Int.tmod_eq_emod_of_nonneg h
theorem floor_neg {t n : Int} (hn : 1 ≤ n) (h : t < 0) : (t.tmod n < 0 → t - (t.tmod n + n) = floorS t n) ∧ (¬ t.tmod n < 0 → t - t.tmod n = floorS t n) ∧ -n < t.tmod n ∧ t.tmod n ≤ 0 := by
  have e : t.tmod n = -((-t) % n) := by
    have : t = -(-t) := by omega
    rw [this, Int.neg_tmod, Int.tmod_eq_emod_of_nonneg (by omega)]; simp
  have h1 := Int.emod_nonneg (-t) (show n ≠ 0 by omega)
  have h2 := Int.emod_lt_of_pos (-t) (show 0 < n by omega)
  have h3 := Int.emod_nonneg t (show n ≠ 0 by omega)
  have h4 := Int.emod_lt_of_pos t (show 0 < n by omega)
  have d1 := Int.mul_ediv_add_emod t n
  have d2 := Int.mul_ediv_add_emod (-t) n
  have key : (-t) % n = 0 ∧ t % n = 0 ∨ (-t) % n + t % n = n := by
    have hm : n * (t / n + (-t) / n) = -(t % n + (-t) % n) := by rw [Int.mul_add]; omega
    have hq : t / n + (-t) / n = 0 ∨ t / n + (-t) / n = -1 := by
      by_cases h : t / n + (-t) / n < -1
      · have : n * (t / n + (-t) / n) ≤ n * (-2) := Int.mul_le_mul_of_nonneg_left (by omega) (by omega)
        omega
      · by_cases h' : 0 < t / n + (-t) / n
        · have : n * 1 ≤ n * (t / n + (-t) / n) := Int.mul_le_mul_of_nonneg_left (by omega) (by omega)
          omega
        · omega
    rcases hq with hq | hq
    · rw [hq] at hm; left; omega
    · rw [hq] at hm; right; omega
  rw [e]
  unfold floorS
  refine ⟨fun h => ?_, fun h => ?_, by omega, by omega⟩
  · omega
  · omega
theorem floorS_bd {t n : Int} (hn : 1 ≤ n) : floorS t n ≤ t ∧ t - n < floorS t n := by
  have h3 := Int.emod_nonneg t (show n ≠ 0 by omega)
  have h4 := Int.emod_lt_of_pos t (show 0 < n by omega)
  unfold floorS; omega

set_option maxRecDepth 100000 in
theorem floor_any (t n : Int) (w : World) (h1 : -4611687117939015680 ≤ t) (h2 : t ≤ 4611687117939015679) (n1 : 1 ≤ n) (n2 : n ≤ 1099511627776) :
    Calls Try.prog 29 #[.int .i64 t, .int .i64 n] w (RetV (.int .i64 (floorS t n)) w) := by
  by_cases h : 0 ≤ t
  · have h3 := Int.emod_nonneg t (show n ≠ 0 by omega)
    have h4 := Int.emod_lt_of_pos t (show 0 < n by omega)
    go_enter Try.func29, Try.ntmps29
    go_wp2
    go_ret
    exact ⟨ret_int rfl, rfl⟩
  · obtain ⟨f1, f2, f3, f4⟩ := floor_neg n1 (show t < 0 by omega)
    have F1 := Lib.hid f1
    have F2 := Lib.hid f2
    clear f1 f2
    by_cases hr : t.tmod n < 0
    · go_enter Try.func29, Try.ntmps29
      go_wp2
      go_ret
      exact ⟨ret_int (F1.out hr), rfl⟩
    · go_enter Try.func29, Try.ntmps29
      go_wp2
      go_ret
      exact ⟨ret_int (F2.out (by omega)), rfl⟩
set_option maxRecDepth 100000 in
theorem rfloor_any (t n : Int) (w : World) (h1 : -4611687117939015680 ≤ t) (h2 : t ≤ 4611687117939015679) (n1 : 1 ≤ n) (n2 : n ≤ 1099511627776) :
    Calls Try.prog 12 #[.int .i64 t, .int .i64 n] w (RetV (.int .i64 (floorS t n)) w) := by
  by_cases h : 0 ≤ t
  · have h3 := Int.emod_nonneg t (show n ≠ 0 by omega)
    have h4 := Int.emod_lt_of_pos t (show 0 < n by omega)
    go_enter Try.func12, Try.ntmps12
    go_wp2
    go_ret
    exact ⟨ret_int rfl, rfl⟩
  · obtain ⟨f1, f2, f3, f4⟩ := floor_neg n1 (show t < 0 by omega)
    have F1 := Lib.hid f1
    have F2 := Lib.hid f2
    clear f1 f2
    by_cases hr : t.tmod n < 0
    · go_enter Try.func12, Try.ntmps12
      go_wp2
      go_ret
      exact ⟨ret_int (F1.out hr), rfl⟩
    · go_enter Try.func12, Try.ntmps12
      go_wp2
      go_ret
      exact ⟨ret_int (F2.out (by omega)), rfl⟩
theorem ceil_any (t n : Int) (w : World) (h1 : -4611687117939015680 ≤ t) (h2 : t ≤ 4611687117939015679) (n1 : 1 ≤ n) (n2 : n ≤ 1099511627776) :
    Calls Try.prog 30 #[.int .i64 t, .int .i64 n] w (RetV (.int .i64 (ceilS t n)) w) := by
  obtain ⟨b1, b2⟩ := floorS_bd (t := t) n1
  by_cases h : floorS t n < t
  all_goals
    have HC := Lib.hid (show ceilS t n = _ from rfl)
    go_enter Try.func30, Try.ntmps30
    go_wp2_with (go_at_call 29; refine (floor_any _ _ _ h1 h2 n1 n2).mono ?_; rintro e w' ⟨rfl, rfl⟩)
    go_ret
    exact ⟨ret_int (by unfold ceilS; first | rw [if_pos h] | rw [if_neg (by omega)]), rfl⟩
theorem rceil_any (t n : Int) (w : World) (h1 : -4611687117939015680 ≤ t) (h2 : t ≤ 4611687117939015679) (n1 : 1 ≤ n) (n2 : n ≤ 1099511627776) :
    Calls Try.prog 13 #[.int .i64 t, .int .i64 n] w (RetV (.int .i64 (ceilS t n)) w) := by
  obtain ⟨b1, b2⟩ := floorS_bd (t := t) n1
  by_cases h : floorS t n < t
  all_goals
    have HC := Lib.hid (show ceilS t n = _ from rfl)
    go_enter Try.func13, Try.ntmps13
    go_wp2_with (go_at_call 12; refine (rfloor_any _ _ _ h1 h2 n1 n2).mono ?_; rintro e w' ⟨rfl, rfl⟩)
    go_ret
    exact ⟨ret_int (by unfold ceilS; first | rw [if_pos h] | rw [if_neg (by omega)]), rfl⟩

/-- A span that is not empty, or the zero one. -/
def goodS (a b : Int) : Int × Int := if b ≤ a then (0, 0) else (a, b)
def spanV (p : Int × Int) : Value := .agg #[.int .i64 p.1, .int .i64 p.2]
def emptyB (a b : Int) : Bool := decide (b ≤ a)
def hasB (a b t : Int) : Bool := decide (a ≤ t ∧ t < b)
theorem empty_any (a b : Int) (w : World) : Calls Try.prog 22 #[.agg #[.int .i64 a, .int .i64 b]] w (Gives (.bool (emptyB a b)) w) := by
  go_enter Try.func22, Try.ntmps22
  go_wp2
  all_goals
    go_ret
    exact ⟨ret_bool (by simp [emptyB]), (Below.refl _ _).alloc (Nat.le_refl _) _⟩
theorem has_any (a b t : Int) (w : World) : Calls Try.prog 25 #[.agg #[.int .i64 a, .int .i64 b], .int .i64 t] w (Gives (.bool (hasB a b t)) w) := by
  by_cases h1 : a ≤ t
  · go_enter Try.func25, Try.ntmps25
    go_wp2
    go_ret
    exact ⟨ret_bool (by simp [hasB, h1]), (Below.refl _ _).alloc (Nat.le_refl _) _⟩
  · go_enter Try.func25, Try.ntmps25
    go_wp2
    go_ret
    exact ⟨ret_bool (by simp [hasB]; omega), (Below.refl _ _).alloc (Nat.le_refl _) _⟩
theorem alloc1 (w : World) (o : Obj) : Below w.heap.size w (w.alloc o) := (Below.refl _ _).alloc (Nat.le_refl _) _
theorem alloc2 (w : World) (o p : Obj) : Below w.heap.size w ((w.alloc o).alloc p) := (alloc1 w o).alloc (by simp) _
theorem alloc3 (w : World) (o p q : Obj) : Below w.heap.size w (((w.alloc o).alloc p).alloc q) := (alloc2 w o p).alloc (by simp; omega) _
theorem alloc4 (w : World) (o p q r : Obj) : Below w.heap.size w ((((w.alloc o).alloc p).alloc q).alloc r) := (alloc3 w o p q).alloc (by simp; omega) _
theorem good_any (a b : Int) (w : World) : Calls Try.prog 32 #[.int .i64 a, .int .i64 b] w (Gives (spanV (goodS a b)) w) := by
  by_cases h1 : b ≤ a
  · have HG := Lib.hid (show goodS a b = (0, 0) from if_pos h1)
    go_enter Try.func32, Try.ntmps32
    go_wp2
    exact bodyPost_ret (v := .agg #[.int .i64 0, .int .i64 0]) (by simp [results, Try.results32, go_sem]) rfl ⟨by rw [HG.out]; rfl, alloc1 _ _⟩
  · have HG := Lib.hid (show goodS a b = (a, b) from if_neg h1)
    go_enter Try.func32, Try.ntmps32
    go_wp2
    exact bodyPost_ret (v := .agg #[.int .i64 a, .int .i64 b]) (by simp [results, Try.results32, go_sem]) rfl ⟨by rw [HG.out]; rfl, alloc1 _ _⟩
theorem orzero_any (a b : Int) (w : World) : Calls Try.prog 33 #[.agg #[.int .i64 a, .int .i64 b]] w (Gives (spanV (goodS a b)) w) := by
  by_cases h1 : b ≤ a
  · have HG := Lib.hid (show goodS a b = (0, 0) from if_pos h1)
    go_enter Try.func33, Try.ntmps33
    go_wp2
    exact bodyPost_ret (v := .agg #[.int .i64 0, .int .i64 0]) (by simp [results, Try.results33, go_sem]) rfl ⟨by rw [HG.out]; rfl, alloc3 _ _ _ _⟩
  · have HG := Lib.hid (show goodS a b = (a, b) from if_neg h1)
    go_enter Try.func33, Try.ntmps33
    go_wp2
    exact bodyPost_ret (v := .agg #[.int .i64 a, .int .i64 b]) (by simp [results, Try.results33, go_sem]) rfl ⟨by rw [HG.out]; rfl, alloc3 _ _ _ _⟩
/-- What two spans have in common. -/
def andS (a b c d : Int) : Int × Int := goodS (max a c) (min b d)
theorem res_cells {W0 w1 : World} {g : Nat} (x y : Value) (t : TypeId) (hg : g = W0.heap.size) (hb : Below (W0.alloc (.cells #[x, y] t)).heap.size (W0.alloc (.cells #[x, y] t)) w1) :
    w1.cell? ⟨g, 0, none⟩ = some x ∧ w1.cell? ⟨g, 1, none⟩ = some y ∧ w1.frozen? ⟨g, 0, none⟩ = false ∧ w1.frozen? ⟨g, 1, none⟩ = false := by
  subst hg
  refine ⟨?_, ?_, ?_, ?_⟩
  · rw [hb.cell (by simp), World.cell?_alloc_at _ _ _ _ rfl]; rfl
  · rw [hb.cell (by simp), World.cell?_alloc_at _ _ _ _ rfl]; rfl
  · rw [hb.frozen (by simp)]; exact World.frozen?_alloc_at _ _ _ _ rfl
  · rw [hb.frozen (by simp)]; exact World.frozen?_alloc_at _ _ _ _ rfl
theorem and_any (a b c d : Int) (w : World) : Calls Try.prog 23 #[.agg #[.int .i64 a, .int .i64 b], .agg #[.int .i64 c, .int .i64 d]] w (Gives (spanV (andS a b c d)) w) := by
  obtain ⟨x, hx⟩ : ∃ x, x = max a c := ⟨_, rfl⟩
  obtain ⟨y, hy⟩ : ∃ y, y = min b d := ⟨_, rfl⟩
  have HG := Lib.hid (show andS a b c d = goodS x y by rw [hx, hy]; rfl)
  have HX := Lib.hid hx
  have HY := Lib.hid hy
  clear hx hy
  go_enter Try.func23, Try.ntmps23
  go_wp2_with fail
  all_goals
    refine (orzero_any _ _ _).mono ?_
    rintro e w1 ⟨rfl, hb⟩
    obtain ⟨c0, c1, f0, f1⟩ := res_cells (g := w.heap.size + 1 + 1) _ _ _ (by simp) hb
    have hz := hb.size
    simp at hz
    have Hb := Lib.hid ((alloc3 _ _ _ _).trans (hb.mono (by simp; omega)))
    clear hb
    generalize hp : goodS _ _ = p
    have HP := Lib.hid hp
    clear hp
    simp only [spanV]
    go_wp2_with fail
    refine bodyPost_ret (v := .agg #[.int .i64 p.1, .int .i64 p.2]) (by simp [results, Try.results23, go_sem, c0, c1]) rfl ⟨?_, ?_⟩
    · refine congrArg (fun p => Ending.returned (spanV p)) ?_
      rw [HG.out, HX.out, HY.out, ← HP.out]
      congr 1 <;> omega
    · exact ((Hb.out.setCell (by simp; omega) _).setCell (by simp; omega) _)
theorem rand_any (a b c d : Int) (w : World) : Calls Try.prog 24 #[.agg #[.int .i64 a, .int .i64 b], .agg #[.int .i64 c, .int .i64 d]] w (Gives (spanV (andS a b c d)) w) := by
  obtain ⟨x, hx⟩ : ∃ x, x = max a c := ⟨_, rfl⟩
  obtain ⟨y, hy⟩ : ∃ y, y = min b d := ⟨_, rfl⟩
  have HG := Lib.hid (show andS a b c d = goodS x y by rw [hx, hy]; rfl)
  have HX := Lib.hid hx
  have HY := Lib.hid hy
  clear hx hy
  go_enter Try.func24, Try.ntmps24
  go_wp2_with fail
  all_goals
    refine (good_any _ _ _).mono ?_
    rintro e w1 ⟨rfl, hb⟩
    obtain ⟨c0, c1, f0, f1⟩ := res_cells (g := w.heap.size + 1 + 1) _ _ _ (by simp) hb
    have hz := hb.size
    simp at hz
    have Hb := Lib.hid ((alloc3 _ _ _ _).trans (hb.mono (by simp; omega)))
    clear hb
    generalize hp : goodS _ _ = p
    have HP := Lib.hid hp
    clear hp
    simp only [spanV]
    go_wp2_with fail
    refine bodyPost_ret (v := .agg #[.int .i64 p.1, .int .i64 p.2]) (by simp [results, Try.results24, go_sem, c0, c1]) rfl ⟨?_, ?_⟩
    · refine congrArg (fun p => Ending.returned (spanV p)) ?_
      rw [HG.out, HX.out, HY.out, ← HP.out]
      congr 1 <;> omega
    · exact ((Hb.out.setCell (by simp; omega) _).setCell (by simp; omega) _)
end Go.Proofs.Ytfpegfngogkmmab
