/-
  Spans as numbers: what spans have in common, buckets of multiples of a width. Plain lemmas; each says its own condition.
-/
import Derived.Test.YtfpegfngogkmmabS4
namespace Go.Proofs.Ytfpegfngogkmmab
open Go.RowKit

theorem below_step {w w1 w2 : World} (h : Below w.heap.size w w1) (hb : Below w1.heap.size w1 w2) : Below w.heap.size w w2 := h.trans (hb.mono h.size)
theorem cell_belowD {w w' : World} {p : Addr} {x : Value} (h : w.cell? p = some x) (hb : Below w.drew.heap.size w.drew w') : w'.cell? p = some x := cell_below (w := w.drew) h hb
theorem cell_belowN {w w' : World} {p : Addr} {x : Value} {n : Nat} (h : w.cell? p = some x) (hb : Below (w.drewN n).heap.size (w.drewN n) w') : w'.cell? p = some x := cell_below (w := w.drewN n) h hb
theorem keep4 {w0 w w' : World} {p1 p2 p3 p4 : Addr} {x1 x2 x3 x4 : Value} (hb : Below w.heap.size w w') (h : w.cell? p1 = some x1 ∧ w.cell? p2 = some x2 ∧ w.cell? p3 = some x3 ∧ w.cell? p4 = some x4 ∧ Below w0.heap.size w0 w) :
    w'.cell? p1 = some x1 ∧ w'.cell? p2 = some x2 ∧ w'.cell? p3 = some x3 ∧ w'.cell? p4 = some x4 ∧ Below w0.heap.size w0 w' :=
  ⟨cell_below h.1 hb, cell_below h.2.1 hb, cell_below h.2.2.1 hb, cell_below h.2.2.2.1 hb, below_step h.2.2.2.2 hb⟩
theorem keep6 {w0 w w' : World} {p1 p2 p3 p4 p5 p6 : Addr} {x1 x2 x3 x4 x5 x6 : Value} (hb : Below w.heap.size w w') (h : w.cell? p1 = some x1 ∧ w.cell? p2 = some x2 ∧ w.cell? p3 = some x3 ∧ w.cell? p4 = some x4 ∧ w.cell? p5 = some x5 ∧ w.cell? p6 = some x6 ∧ Below w0.heap.size w0 w) :
    w'.cell? p1 = some x1 ∧ w'.cell? p2 = some x2 ∧ w'.cell? p3 = some x3 ∧ w'.cell? p4 = some x4 ∧ w'.cell? p5 = some x5 ∧ w'.cell? p6 = some x6 ∧ Below w0.heap.size w0 w' :=
  ⟨cell_below h.1 hb, cell_below h.2.1 hb, cell_below h.2.2.1 hb, cell_below h.2.2.2.1 hb, cell_below h.2.2.2.2.1 hb, cell_below h.2.2.2.2.2.1 hb, below_step h.2.2.2.2.2.2 hb⟩
theorem keep8 {w0 w w' : World} {p1 p2 p3 p4 p5 p6 p7 p8 : Addr} {x1 x2 x3 x4 x5 x6 x7 x8 : Value} (hb : Below w.heap.size w w') (h : w.cell? p1 = some x1 ∧ w.cell? p2 = some x2 ∧ w.cell? p3 = some x3 ∧ w.cell? p4 = some x4 ∧ w.cell? p5 = some x5 ∧ w.cell? p6 = some x6 ∧ w.cell? p7 = some x7 ∧ w.cell? p8 = some x8 ∧ Below w0.heap.size w0 w) :
    w'.cell? p1 = some x1 ∧ w'.cell? p2 = some x2 ∧ w'.cell? p3 = some x3 ∧ w'.cell? p4 = some x4 ∧ w'.cell? p5 = some x5 ∧ w'.cell? p6 = some x6 ∧ w'.cell? p7 = some x7 ∧ w'.cell? p8 = some x8 ∧ Below w0.heap.size w0 w' :=
  ⟨cell_below h.1 hb, cell_below h.2.1 hb, cell_below h.2.2.1 hb, cell_below h.2.2.2.1 hb, cell_below h.2.2.2.2.1 hb, cell_below h.2.2.2.2.2.1 hb, cell_below h.2.2.2.2.2.2.1 hb, cell_below h.2.2.2.2.2.2.2.1 hb, below_step h.2.2.2.2.2.2.2.2 hb⟩
theorem span_same (x y : Int) (W : World) : Sem.run Try.prog (binOp .eql 23 (.agg #[.int .i64 x, .int .i64 y]) (.agg #[.int .i64 x, .int .i64 y])) W = .ok (.bool true) W := by go_simp
theorem span_not (x y : Int) (W : World) : Sem.run Try.prog (binOp .neq 23 (.agg #[.int .i64 x, .int .i64 y]) (.agg #[.int .i64 x, .int .i64 y])) W = .ok (.bool false) W := by go_simp
theorem and_comm_ (a b c d : Int) : andS a b c d = andS c d a b := by
  unfold andS
  rw [show max a c = max c a from by omega, show min b d = min d b from by omega]
theorem goodS_fst_snd (a b : Int) : ((goodS a b).1 = a ∧ (goodS a b).2 = b ∧ a < b) ∨ ((goodS a b).1 = 0 ∧ (goodS a b).2 = 0 ∧ b ≤ a) := by
  unfold goodS
  split
  · exact .inr ⟨rfl, rfl, by assumption⟩
  · exact .inl ⟨rfl, rfl, by omega⟩
theorem has_and (a b c d t : Int) : hasB (andS a b c d).1 (andS a b c d).2 t = (hasB a b t && hasB c d t) := by
  unfold andS hasB
  rcases goodS_fst_snd (max a c) (min b d) with ⟨h1, h2, h3⟩ | ⟨h1, h2, h3⟩
  · rw [h1, h2, Bool.eq_iff_iff]; simp; omega
  · rw [h1, h2, Bool.eq_iff_iff]; simp; omega
theorem good_eq {a b c d : Int} (h : b ≤ a ∧ d ≤ c ∨ a = c ∧ b = d) : goodS a b = goodS c d := by
  rcases h with ⟨h1, h2⟩ | ⟨rfl, rfl⟩
  · rw [goodS, if_pos h1, goodS, if_pos h2]
  · rfl
theorem empty_and (a b c d : Int) : emptyB (andS a b c d).1 (andS a b c d).2 = (decide ((andS a b c d).1 = 0 ∧ (andS a b c d).2 = 0)) := by
  unfold andS emptyB
  rcases goodS_fst_snd (max a c) (min b d) with ⟨h1, h2, h3⟩ | ⟨h1, h2, h3⟩
  · rw [h1, h2, Bool.eq_iff_iff]; simp; omega
  · rw [h1, h2, Bool.eq_iff_iff]; simp
theorem and_self_ {a b : Int} (h : emptyB a b = false) : andS a b a b = (a, b) := by
  have : a < b := by simp [emptyB] at h; omega
  unfold andS
  rw [show max a a = a from by omega, show min b b = b from by omega, goodS, if_neg (by omega)]

theorem floor_add (t n : Int) : floorS (t + n) n = floorS t n + n := by unfold floorS; rw [Int.add_emod_right]; omega
theorem floor_mod {t n : Int} : floorS t n % n = 0 := by
  unfold floorS
  rw [Int.sub_emod, Int.emod_emod_of_dvd _ (Int.dvd_refl n)]; simp
theorem floor_of {f n : Int} (h : f % n = 0) : floorS f n = f := by unfold floorS; omega
theorem ceil_of {f n : Int} (h : f % n = 0) : ceilS f n = f := by
  unfold ceilS; rw [floor_of h, if_neg (by omega)]
theorem errS_in {m t : Int} (hm : widthB m = true) (h1 : -4611687117939015680 ≤ t) (h2 : t ≤ 4611687117939015679) : errS m [t] = 0 :=
  errS_zero hm (by simp [boundB]; omega)
theorem errS_in2 {m a b : Int} (hm : widthB m = true) (h1 : -4611687117939015680 ≤ a) (h2 : a ≤ 4611687117939015679) (h3 : -4611687117939015680 ≤ b) (h4 : b ≤ 4611687117939015679) : errS m [a, b] = 0 :=
  errS_zero hm (by simp [boundB]; omega)
theorem time_iff (x : Int) : timeB x = true ↔ -4611686018427387904 ≤ x ∧ x ≤ 4611686018427387903 := by simp [timeB]
theorem floor_uniq {t n f : Int} (hf : f % n = 0) (h1 : f ≤ t) (h2 : t < f + n) : floorS t n = f := by
  have e : t % n = t - f := by
    have : t = (t - f) + f := by omega
    conv => lhs; rw [this]
    rw [Int.add_emod, hf, Int.add_zero, Int.emod_emod_of_dvd _ (Int.dvd_refl n)]
    exact Int.emod_eq_of_lt (by omega) (by omega)
  unfold floorS; omega
theorem floor_gap {f g n : Int} (hn : 1 ≤ n) (hf : f % n = 0) (hg : g % n = 0) (h : f < g) : f + n ≤ g := by
  obtain ⟨p, rfl⟩ := Int.dvd_of_emod_eq_zero hf
  obtain ⟨q, rfl⟩ := Int.dvd_of_emod_eq_zero hg
  have hpq : p < q := Int.lt_of_mul_lt_mul_left h (by omega)
  have : n * (p + 1) ≤ n * q := Int.mul_le_mul_of_nonneg_left (by omega) (by omega)
  rw [Int.mul_add] at this; omega
theorem tmod_zero {f n : Int} (hf : f % n = 0) : f.tmod n = 0 := by
  obtain ⟨p, rfl⟩ := Int.dvd_of_emod_eq_zero hf
  exact Int.mul_tmod_right n p
theorem emod_of_mul {f n k : Int} (h : f % (n * k) = 0) : f % n = 0 := by
  obtain ⟨p, rfl⟩ := Int.dvd_of_emod_eq_zero h
  rw [Int.mul_assoc]; exact Int.mul_emod_right n _
/-- A bucket of a multiple of the width has the buckets of the width whole. -/
theorem bucket_in {t n k : Int} (hn : 1 ≤ n) (hk : 1 ≤ k) : floorS t (n * k) ≤ floorS t n ∧ floorS t n + n ≤ floorS t (n * k) + n * k := by
  have hN : 1 ≤ n * k := by
    have : 1 * 1 ≤ n * k := Int.mul_le_mul hn hk (by omega) (by omega)
    omega
  obtain ⟨a1, a2⟩ := floorS_bd (t := t) hn
  obtain ⟨b1, b2⟩ := floorS_bd (t := t) hN
  have m1 := floor_mod (t := t) (n := n)
  have m2 := emod_of_mul (floor_mod (t := t) (n := n * k))
  have m3 : (floorS t (n * k) + n * k) % n = 0 := by rw [Int.add_emod, m2, Int.mul_emod_right]; simp
  constructor
  · by_cases h : floorS t n < floorS t (n * k)
    · have := floor_gap hn m1 m2 h; omega
    · omega
  · exact floor_gap hn m1 m3 (by omega)
theorem mul_le_of_le_div {n k m : Int} (hn : 1 ≤ n) (h : k ≤ m / n) : n * k ≤ m := by
  have h1 : n * k ≤ n * (m / n) := Int.mul_le_mul_of_nonneg_left h (by omega)
  have h2 := Int.mul_ediv_add_emod m n
  have h3 := Int.emod_nonneg m (show n ≠ 0 by omega)
  omega
theorem and_in {a b c d : Int} (h : c ≤ a) (h2 : b ≤ d) (h3 : a < b) : andS a b c d = (a, b) := by
  unfold andS
  rw [show max a c = a from by omega, show min b d = b from by omega, goodS, if_neg (by omega)]
end Go.Proofs.Ytfpegfngogkmmab
