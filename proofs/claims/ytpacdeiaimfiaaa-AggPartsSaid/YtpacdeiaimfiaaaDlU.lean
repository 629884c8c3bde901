/-
  A logic of data: bundles of equations, for short texts; what is pure, by a test. Of any program.
-/
import Derived.Test.YtpacdeiaimfiaaaDlV
set_option linter.unusedSimpArgs false
set_option linter.unusedVariables false
namespace Go.DL
open Go.RowKit

theorem LS : (∀ l : List UInt8, (bytesD l).length = l.length) ∧ (∀ (zv : Value) (n sz : Nat), (zeros zv n sz).length = n) ∧ (∀ l : List Val, (l.flatMap vc).length = l.length * 3) ∧ (∀ {α : Type} (a b : List α), (a ++ b).length = a.length + b.length) ∧ (∀ {α : Type} (n : Nat) (l : List α), (l.take n).length = min n l.length)
    ∧ (∀ {α : Type} (n : Nat) (l : List α), (l.drop n).length = l.length - n) ∧ (∀ {α β : Type} (f : α → β) (l : List α), (l.map f).length = l.length) ∧ (∀ {α : Type}, ([] : List α).length = 0) ∧ (∀ {α : Type} (a : α) (l : List α), (a :: l).length = l.length + 1) ∧ (∀ {α : Type} (n : Nat) (a : α), (List.replicate n a).length = n)
    ∧ (∀ {α : Type} (l : List α), l.reverse.length = l.length) ∧ (∀ {α : Type} (l : List α) (n : Nat) (a : α), (l.set n a).length = l.length) ∧ (∀ n : Nat, (List.range n).length = n) ∧ (∀ l : List UInt8, (strB l).size = l.length) :=
  ⟨bytesD_len, zeros_len, flatMap_len vc_len, fun _ _ => List.length_append, fun _ _ => List.length_take, fun _ _ => List.length_drop, fun _ _ => List.length_map _, List.length_nil, fun _ _ => List.length_cons, fun _ _ => List.length_replicate, fun _ => List.length_reverse, fun _ _ _ => List.length_set, fun _ => List.length_range, strB_size⟩
theorem CN : (∀ (p : Prop) [Decidable p], (decide p = true) = p) ∧ (∀ (p : Prop) [Decidable p], decide p = false ↔ ¬p) ∧ (∀ a b : Bool, ((a && b) = true) = (a = true ∧ b = true)) ∧ (∀ a b : Bool, ((a || b) = true) = (a = true ∨ b = true)) ∧ (∀ b : Bool, ((!b) = true) = (b = false)) ∧ (∀ b : Bool, ((!b) = false) = (b = true))
    ∧ (∀ a b : Bool, ((a && b) = false) = (a = false ∨ b = false)) ∧ (∀ a b : Bool, ((a || b) = false) = (a = false ∧ b = false)) ∧ (∀ {α : Type} [BEq α] [LawfulBEq α] (a b : α), (a == b) = true ↔ a = b) ∧ (∀ {α : Type} [BEq α] [LawfulBEq α] (a b : α), (a != b) = true ↔ a ≠ b) ∧ (∀ {α : Type} [BEq α] [LawfulBEq α] (a b : α), (a == b) = false ↔ a ≠ b)
    ∧ (∀ {α : Type} [BEq α] [LawfulBEq α] (a b : α), (a != b) = false ↔ a = b) ∧ (∀ a b : Int, ¬a < b ↔ b ≤ a) ∧ (∀ a b : Int, ¬a ≤ b ↔ b < a) ∧ (∀ {α : Type} (a b : α), (a ≠ b) = ¬(a = b)) ∧ (∀ (p : Prop) [Decidable p], ¬¬p ↔ p) :=
  ⟨fun _ _ => decide_eq_true_eq, fun _ _ => decide_eq_false_iff_not, fun _ _ => Bool.and_eq_true _ _, fun _ _ => Bool.or_eq_true _ _, fun b => by cases b <;> simp, fun b => by cases b <;> simp, fun a b => by cases a <;> cases b <;> simp, fun a b => by cases a <;> cases b <;> simp, fun _ _ => beq_iff_eq, fun _ _ => bne_iff_ne, fun _ _ => beq_eq_false_iff_ne, fun _ _ => bne_eq_false_iff_eq, fun _ _ => Int.not_lt, fun _ _ => Int.not_le, fun _ _ => ne_eq _ _, fun _ _ => Decidable.not_not⟩

def pur0 : D → Bool
  | .any | .v _ | .rd _ _ | .adr _ | .mp _ _ => true
  | .agg cs => cs.all isV
  | _ => false
theorem pur0_of {d : D} (h : pur0 d = true) : Pure' d := by
  cases d <;> first | (cases h; done) | skip
  all_goals first | exact .any | exact .v _ | exact .rd _ _ | exact .adr _ | exact .mp _ _ | exact .agg _ (pu_vs h)
def pur1 : D → Bool
  | .agg cs | .tup cs | .fn _ cs => cs.all pur0
  | .iface _ d => pur0 d
  | d => pur0 d
theorem pur1_all {cs : List D} (h : cs.all pur0 = true) : ∀ c ∈ cs, Pure' c := fun c hc => pur0_of (List.all_eq_true.1 h c hc)
theorem pu_of {d : D} (h : pur1 d = true) : Pure' d := by
  cases d with
  | agg cs => exact .agg _ (pur1_all h)
  | tup cs => exact .tup _ (pur1_all h)
  | fn f cs => exact .fn _ _ (pur1_all h)
  | iface t d => exact .iface _ _ (pur0_of h)
  | _ => exact pur0_of h
theorem pua : ∀ {ds : List D}, ds.all pur1 = true → PureAll ds
  | [], _ => trivial
  | d :: ds, h => by
    rw [List.all_cons, Bool.and_eq_true] at h
    exact ⟨pu_of h.1, pua h.2⟩
end Go.DL
