/-
  Layer agg: the order of values, and of pairs of values, is a whole one. Plain mathematics.
-/
import Derived.Test.YtpacdeiaimfiaaaH10
import Derived.Test.YtpacdeiaimfiaaaDlU
set_option linter.unusedSimpArgs false
set_option linter.unusedVariables false
namespace Go.Proofs.Ytpacdeiaimfiaaa
open Go.RowKit Go.DL

structure Ord3 {α : Type} (c : α → α → Int) : Prop where
  val : ∀ a b, c a b = -1 ∨ c a b = 0 ∨ c a b = 1
  eq : ∀ a b, c a b = 0 ↔ a = b
  neg : ∀ a b, c a b = -1 ↔ c b a = 1
  tr : ∀ a b d, c a b = -1 → c b d = -1 → c a d = -1
theorem cmpI_lt' {x y : Int} : cmpI x y = -1 ↔ x < y := by unfold cmpI; split <;> (try split) <;> simp <;> omega
theorem cmpI_gt' {x y : Int} : cmpI x y = 1 ↔ y < x := by unfold cmpI; split <;> (try split) <;> simp <;> omega
theorem cmpB_lt {x y : UInt8} : cmpB x y = -1 ↔ x.toNat < y.toNat := by unfold cmpB; split <;> (try split) <;> simp <;> omega
theorem cmpB_gt {x y : UInt8} : cmpB x y = 1 ↔ y.toNat < x.toNat := by unfold cmpB; split <;> (try split) <;> simp <;> omega
theorem cmpT_val : ∀ a b : List UInt8, Lib.compareBytes a b = -1 ∨ Lib.compareBytes a b = 0 ∨ Lib.compareBytes a b = 1
  | [], [] => .inr (.inl rfl)
  | [], _ :: _ => .inl rfl
  | _ :: _, [] => .inr (.inr rfl)
  | x :: a, y :: b => by
    rw [Lib.compareBytes]
    split
    · exact .inl rfl
    · split
      · exact .inr (.inr rfl)
      · exact cmpT_val a b
theorem cmpT_eq : ∀ a b : List UInt8, Lib.compareBytes a b = 0 ↔ a = b
  | [], [] => by simp [Lib.compareBytes]
  | [], _ :: _ => by simp [Lib.compareBytes]
  | _ :: _, [] => by simp [Lib.compareBytes]
  | x :: a, y :: b => by
    rw [Lib.compareBytes, List.cons.injEq, ← UInt8.toNat_inj]
    split
    · next h => rw [UInt8.lt_iff_toNat_lt] at h; simp; omega
    · split
      · next h => rw [UInt8.lt_iff_toNat_lt] at h; simp; omega
      · next h1 h2 => rw [UInt8.lt_iff_toNat_lt] at h1 h2; rw [cmpT_eq a b]; simp; omega
theorem cmpT_neg : ∀ a b : List UInt8, Lib.compareBytes a b = -1 ↔ Lib.compareBytes b a = 1
  | [], [] => by simp [Lib.compareBytes]
  | [], _ :: _ => by simp [Lib.compareBytes]
  | _ :: _, [] => by simp [Lib.compareBytes]
  | x :: a, y :: b => by
    rw [Lib.compareBytes, Lib.compareBytes]
    by_cases h1 : x < y <;> by_cases h2 : y < x
    · rw [UInt8.lt_iff_toNat_lt] at h1 h2; omega
    · simp [h1, h2]
    · simp [h1, h2]
    · simp only [h1, h2, if_false]; exact cmpT_neg a b
theorem cmpT_tr : ∀ a b d : List UInt8, Lib.compareBytes a b = -1 → Lib.compareBytes b d = -1 → Lib.compareBytes a d = -1
  | [], [], _, h, _ => by simp [Lib.compareBytes] at h
  | [], _ :: _, [], _, h => by simp [Lib.compareBytes] at h
  | [], _ :: _, _ :: _, _, _ => rfl
  | _ :: _, [], _, h, _ => by simp [Lib.compareBytes] at h
  | _ :: _, _ :: _, [], _, h => by simp [Lib.compareBytes] at h
  | x :: a, y :: b, z :: d, h1, h2 => by
    rw [Lib.compareBytes] at h1 h2 ⊢
    simp only [UInt8.lt_iff_toNat_lt] at h1 h2 ⊢
    by_cases p1 : x.toNat < y.toNat
    · by_cases p2 : y.toNat < z.toNat
      · rw [if_pos (by omega)]
      · rw [if_neg p2] at h2
        by_cases p3 : z.toNat < y.toNat
        · rw [if_pos p3] at h2; cases h2
        · rw [if_pos (by omega)]
    · rw [if_neg p1] at h1
      by_cases p2 : y.toNat < x.toNat
      · rw [if_pos p2] at h1; cases h1
      · rw [if_neg p2] at h1
        by_cases p3 : y.toNat < z.toNat
        · rw [if_pos (by omega)]
        · rw [if_neg p3] at h2
          by_cases p4 : z.toNat < y.toNat
          · rw [if_pos p4] at h2; cases h2
          · rw [if_neg p4] at h2
            rw [if_neg (by omega), if_neg (by omega)]
            exact cmpT_tr a b d h1 h2
theorem ordI : Ord3 cmpI where
  val a b := by unfold cmpI; split <;> (try split) <;> simp
  eq a b := by unfold cmpI; split <;> (try split) <;> simp <;> omega
  neg a b := by rw [cmpI_lt', cmpI_gt']
  tr a b d h1 h2 := by rw [cmpI_lt'] at *; omega
theorem ordB : Ord3 cmpB where
  val a b := by unfold cmpB; split <;> (try split) <;> simp
  eq a b := by
    rw [← UInt8.toNat_inj]
    unfold cmpB; split <;> (try split) <;> simp <;> omega
  neg a b := by rw [cmpB_lt, cmpB_gt]
  tr a b d h1 h2 := by rw [cmpB_lt] at *; omega
theorem ordT : Ord3 Lib.compareBytes where
  val := cmpT_val
  eq := cmpT_eq
  neg := cmpT_neg
  tr := cmpT_tr
/-- First by one, then by the other. -/
def lexC {α β : Type} (c : α → α → Int) (d : β → β → Int) (x y : α × β) : Int := if c x.1 y.1 ≠ 0 then c x.1 y.1 else d x.2 y.2
theorem lex_ord {α β : Type} {c : α → α → Int} {d : β → β → Int} (hc : Ord3 c) (hd : Ord3 d) : Ord3 (lexC c d) where
  val a b := by
    unfold lexC; split
    · exact hc.val _ _
    · exact hd.val _ _
  eq a b := by
    unfold lexC
    split
    · next h => exact ⟨fun e => absurd e h, fun e => by subst e; exact (hc.eq _ _).2 rfl⟩
    · next h =>
      have h1 := (hc.eq _ _).1 (Decidable.not_not.1 h)
      rw [hd.eq]
      exact ⟨fun h2 => Prod.ext h1 h2, fun e => by rw [e]⟩
  neg a b := by
    unfold lexC
    by_cases h : c a.1 b.1 = 0
    · have h1 := (hc.eq _ _).1 h
      have h2 : c b.1 a.1 = 0 := (hc.eq _ _).2 h1.symm
      rw [if_neg (by simpa using h), if_neg (by simpa using h2)]
      exact hd.neg _ _
    · have h2 : ¬ c b.1 a.1 = 0 := fun e => h ((hc.eq _ _).2 ((hc.eq _ _).1 e).symm)
      rw [if_pos h, if_pos h2]
      exact hc.neg _ _
  tr a b e h1 h2 := by
    unfold lexC at *
    by_cases k1 : c a.1 b.1 = 0 <;> by_cases k2 : c b.1 e.1 = 0
    · have q1 := (hc.eq _ _).1 k1
      have q2 := (hc.eq _ _).1 k2
      rw [if_neg (by simpa using k1)] at h1
      rw [if_neg (by simpa using k2)] at h2
      rw [if_neg (by rw [q1]; simpa using k2)]
      exact hd.tr _ _ _ h1 h2
    · have q1 := (hc.eq _ _).1 k1
      rw [if_pos k2] at h2
      rw [q1, if_pos k2]; exact h2
    · have q2 := (hc.eq _ _).1 k2
      rw [if_pos k1] at h1
      rw [← q2, if_pos k1]; exact h1
    · rw [if_pos k1] at h1
      rw [if_pos k2] at h2
      have := hc.tr _ _ _ h1 h2
      rw [this, if_pos (by decide)]
def tri (v : Val) : UInt8 × Int × List UInt8 := (v.k, v.i, v.t)
theorem tri_inj {a b : Val} (h : tri a = tri b) : a = b := by
  obtain ⟨k, i, t⟩ := a
  obtain ⟨k', i', t'⟩ := b
  simp only [tri, Prod.mk.injEq] at h
  obtain ⟨rfl, rfl, rfl⟩ := h
  rfl
theorem cmpV_tri (a b : Val) : cmpV a b = lexC cmpB (lexC cmpI Lib.compareBytes) (tri a) (tri b) := rfl
theorem ordV : Ord3 cmpV := by
  have h := lex_ord ordB (lex_ord ordI ordT)
  exact ⟨fun a b => h.val (tri a) (tri b), fun a b => ⟨fun e => tri_inj ((h.eq (tri a) (tri b)).1 e), fun e => (h.eq (tri a) (tri b)).2 (congrArg tri e)⟩, fun a b => h.neg (tri a) (tri b), fun a b d => h.tr (tri a) (tri b) (tri d)⟩
theorem Ord3.self {α : Type} {c : α → α → Int} (h : Ord3 c) (a : α) : c a a = 0 := (h.eq a a).2 rfl
/-- The same both ways. -/
theorem Ord3.trd {α : Type} {c : α → α → Int} (h : Ord3 c) {d : Int} (hd : d = -1 ∨ d = 1) {x y z : α} (h1 : c x y = d) (h2 : c y z = d) : c x z = d := by
  rcases hd with rfl | rfl
  · exact h.tr _ _ _ h1 h2
  · exact (h.neg _ _).1 (h.tr _ _ _ ((h.neg _ _).2 h2) ((h.neg _ _).2 h1))
end Go.Proofs.Ytpacdeiaimfiaaa
