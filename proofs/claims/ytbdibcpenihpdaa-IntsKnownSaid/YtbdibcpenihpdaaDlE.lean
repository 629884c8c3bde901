/-
  A logic of data for the walks: an evaluator of code on exact data; tries, blocks as tries, data forced. Plain lemmas over any program; no condition.
-/
import Derived.Test.YtbdibcpenihpdaaDlX
set_option linter.unusedSimpArgs false
set_option linter.unusedVariables false
namespace Go.DL
open Go.RowKit

/-! ### Tries -/
inductive Tr (α : Type) where
  | nil
  | node (v : Option α) (l r : Tr α)
section
variable {α β : Type}
noncomputable def Tr.get (t : Tr α) : Nat → Option α :=
  Tr.rec (motive := fun _ => Nat → Option α) (fun _ => none) (fun v _ _ gl gr i => bif Nat.beq i 0 then v else bif Nat.beq (i % 2) 1 then gl (i / 2) else gr (i / 2 - 1)) t
noncomputable def Tr.setF (a : α) (n : Nat) : Nat → Tr α → Tr α :=
  Nat.rec (motive := fun _ => Nat → Tr α → Tr α) (fun _ t => t) (fun _ ih i t =>
    bif Nat.beq i 0 then Tr.rec (motive := fun _ => Tr α) (.node (some a) .nil .nil) (fun _ l r _ _ => .node (some a) l r) t
    else bif Nat.beq (i % 2) 1 then Tr.rec (motive := fun _ => Tr α) (.node none (ih (i / 2) .nil) .nil) (fun v l r _ _ => .node v (ih (i / 2) l) r) t
    else Tr.rec (motive := fun _ => Tr α) (.node none .nil (ih (i / 2 - 1) .nil)) (fun v l r _ _ => .node v l (ih (i / 2 - 1) r)) t) n
noncomputable def Tr.set (t : Tr α) (i : Nat) (a : α) : Tr α := Tr.setF a (i + 1) i t
theorem Tr.get_nil (i : Nat) : (Tr.nil : Tr α).get i = none := rfl
theorem Tr.get_node (v : Option α) (l r : Tr α) (i : Nat) : (Tr.node v l r).get i = bif Nat.beq i 0 then v else bif Nat.beq (i % 2) 1 then l.get (i / 2) else r.get (i / 2 - 1) := rfl
theorem beq_false {a b : Nat} (h : a ≠ b) : Nat.beq a b = false := by
  cases hb : Nat.beq a b with
  | false => rfl
  | true => exact absurd (Nat.eq_of_beq_eq_true hb) h
theorem Tr.get_setF (a : α) : ∀ (n i : Nat) (t : Tr α) (j : Nat), i < n → (Tr.setF a n i t).get j = if j = i then some a else t.get j
  | 0, _, _, _, h => absurd h (Nat.not_lt_zero _)
  | n + 1, i, t, j, h => by
    by_cases h0 : i = 0
    · subst h0
      cases t with
      | nil =>
        show (Tr.node (some a) .nil .nil).get j = _
        rw [get_node]
        by_cases hj : j = 0
        · subst hj; rfl
        · rw [beq_false hj, if_neg hj]; cases Nat.beq (j % 2) 1 <;> rfl
      | node v l r =>
        show (Tr.node (some a) l r).get j = _
        rw [get_node, get_node]
        by_cases hj : j = 0
        · subst hj; rfl
        · rw [beq_false hj, if_neg hj]; rfl
    · have hb0 : Nat.beq i 0 = false := beq_false h0
      by_cases h1 : i % 2 = 1
      · have hb1 : Nat.beq (i % 2) 1 = true := by rw [h1]; rfl
        have hlt : i / 2 < n := by omega
        cases t with
        | nil =>
          have e : Tr.setF a (n + 1) i .nil = .node none (Tr.setF a n (i / 2) .nil) .nil := by
            show (bif Nat.beq i 0 then _ else bif Nat.beq (i % 2) 1 then _ else _) = _
            rw [hb0, hb1]; rfl
          rw [e, get_node]
          by_cases hj : j = 0
          · subst hj; rw [if_neg (Ne.symm h0)]; rfl
          · rw [beq_false hj]
            by_cases hj1 : j % 2 = 1
            · rw [show Nat.beq (j % 2) 1 = true by rw [hj1]; rfl, cond_false, cond_true, get_setF a n (i / 2) .nil (j / 2) hlt]
              by_cases e : j = i
              · subst e; rw [if_pos rfl, if_pos rfl]
              · rw [if_neg e, if_neg (by omega)]; rfl
            · rw [beq_false hj1, if_neg (by rintro rfl; exact hj1 h1)]; rfl
        | node v l r =>
          have e : Tr.setF a (n + 1) i (.node v l r) = .node v (Tr.setF a n (i / 2) l) r := by
            show (bif Nat.beq i 0 then _ else bif Nat.beq (i % 2) 1 then _ else _) = _
            rw [hb0, hb1]; rfl
          rw [e, get_node, get_node]
          by_cases hj : j = 0
          · subst hj; rw [if_neg (Ne.symm h0)]; rfl
          · rw [beq_false hj]
            by_cases hj1 : j % 2 = 1
            · rw [show Nat.beq (j % 2) 1 = true by rw [hj1]; rfl, cond_false, cond_false, cond_true, cond_true, get_setF a n (i / 2) l (j / 2) hlt]
              by_cases e : j = i
              · subst e; rw [if_pos rfl, if_pos rfl]
              · rw [if_neg e, if_neg (by omega)]
            · rw [beq_false hj1, if_neg (by rintro rfl; exact hj1 h1)]; rfl
      · have hb1 : Nat.beq (i % 2) 1 = false := beq_false h1
        have hlt : i / 2 - 1 < n := by omega
        cases t with
        | nil =>
          have e : Tr.setF a (n + 1) i .nil = .node none .nil (Tr.setF a n (i / 2 - 1) .nil) := by
            show (bif Nat.beq i 0 then _ else bif Nat.beq (i % 2) 1 then _ else _) = _
            rw [hb0, hb1]; rfl
          rw [e, get_node]
          by_cases hj : j = 0
          · subst hj; rw [if_neg (Ne.symm h0)]; rfl
          · rw [beq_false hj]
            by_cases hj1 : j % 2 = 1
            · rw [show Nat.beq (j % 2) 1 = true by rw [hj1]; rfl, if_neg (by rintro rfl; exact h1 hj1)]; rfl
            · rw [beq_false hj1, cond_false, cond_false, get_setF a n (i / 2 - 1) .nil (j / 2 - 1) hlt]
              by_cases e : j = i
              · subst e; rw [if_pos rfl, if_pos rfl]
              · rw [if_neg e, if_neg (by omega)]; rfl
        | node v l r =>
          have e : Tr.setF a (n + 1) i (.node v l r) = .node v l (Tr.setF a n (i / 2 - 1) r) := by
            show (bif Nat.beq i 0 then _ else bif Nat.beq (i % 2) 1 then _ else _) = _
            rw [hb0, hb1]; rfl
          rw [e, get_node, get_node]
          by_cases hj : j = 0
          · subst hj; rw [if_neg (Ne.symm h0)]; rfl
          · rw [beq_false hj]
            by_cases hj1 : j % 2 = 1
            · rw [show Nat.beq (j % 2) 1 = true by rw [hj1]; rfl, if_neg (by rintro rfl; exact h1 hj1)]; rfl
            · rw [beq_false hj1, cond_false, cond_false, cond_false, cond_false, get_setF a n (i / 2 - 1) r (j / 2 - 1) hlt]
              by_cases e : j = i
              · subst e; rw [if_pos rfl, if_pos rfl]
              · rw [if_neg e, if_neg (by omega)]
theorem Tr.get_set (t : Tr α) (i : Nat) (a : α) (j : Nat) : (t.set i a).get j = if j = i then some a else t.get j := Tr.get_setF a (i + 1) i t j (Nat.lt_succ_self i)
/-- The same, its way forced. -/
noncomputable def Tr.setK (a : α) (n : Nat) : Nat → Tr α → (Tr α → β) → β :=
  Nat.rec (motive := fun _ => Nat → Tr α → (Tr α → β) → β) (fun _ t k => k t) (fun _ ih i t k =>
    bif Nat.beq i 0 then Tr.rec (motive := fun _ => β) (k (.node (some a) .nil .nil)) (fun _ l r _ _ => k (.node (some a) l r)) t
    else bif Nat.beq (i % 2) 1 then Tr.rec (motive := fun _ => β) (ih (i / 2) .nil fun l' => k (.node none l' .nil)) (fun v l r _ _ => ih (i / 2) l fun l' => k (.node v l' r)) t
    else Tr.rec (motive := fun _ => β) (ih (i / 2 - 1) .nil fun r' => k (.node none .nil r')) (fun v l r _ _ => ih (i / 2 - 1) r fun r' => k (.node v l r')) t) n
theorem Tr.setK_eq (a : α) : ∀ (n i : Nat) (t : Tr α) (k : Tr α → β), Tr.setK a n i t k = k (Tr.setF a n i t)
  | 0, _, _, _ => rfl
  | n + 1, i, t, k => by
    show (bif Nat.beq i 0 then _ else bif Nat.beq (i % 2) 1 then _ else _) = k (bif Nat.beq i 0 then _ else bif Nat.beq (i % 2) 1 then _ else _)
    cases Nat.beq i 0 with
    | true => cases t <;> rfl
    | false => cases Nat.beq (i % 2) 1 with
      | true => cases t with
        | nil => exact setK_eq a n (i / 2) .nil _
        | node v l r => exact setK_eq a n (i / 2) l _
      | false => cases t with
        | nil => exact setK_eq a n (i / 2 - 1) .nil _
        | node v l r => exact setK_eq a n (i / 2 - 1) r _
end

/-! ### Forcing: the identity, told so that what is reckoned is reckoned once -/
section
variable {β : Type}
noncomputable def natF (n : Nat) (k : Nat → β) : β := Nat.rec (motive := fun _ => β) (k 0) (fun m _ => k (Nat.succ m)) n
theorem natF_eq (n : Nat) (k : Nat → β) : natF n k = k n := by cases n <;> rfl
noncomputable def intF (n : Int) (k : Int → β) : β := Int.rec (motive := fun _ => β) (fun m => natF m fun m' => k (.ofNat m')) (fun m => natF m fun m' => k (.negSucc m')) n
theorem intF_eq (n : Int) (k : Int → β) : intF n k = k n := by
  cases n with
  | ofNat m => exact natF_eq m fun m' => k (.ofNat m')
  | negSucc m => exact natF_eq m fun m' => k (.negSucc m')
def boolF (b : Bool) (k : Bool → β) : β := bif b then k true else k false
theorem boolF_eq (b : Bool) (k : Bool → β) : boolF b k = k b := by cases b <;> rfl
noncomputable def valF (v : Value) (k : Value → β) : β := match v with
  | .int kd n => intF n fun n' => k (.int kd n')
  | .bool b => boolF b fun b' => k (.bool b')
  | v => k v
theorem valF_eq (v : Value) (k : Value → β) : valF v k = k v := by
  cases v with
  | int kd n => exact intF_eq n fun n' => k (.int kd n')
  | bool b => exact boolF_eq b fun b' => k (.bool b')
  | _ => rfl
def lstF (f : D → (D → β) → β) : List D → (List D → β) → β
  | [], k => k []
  | d :: ds, k => f d fun d' => lstF f ds fun ds' => k (d' :: ds')
theorem lstF_eq {f : D → (D → β) → β} (h : ∀ d k, f d k = k d) : ∀ (ds : List D) (k : List D → β), lstF f ds k = k ds
  | [], _ => rfl
  | d :: ds, k => by rw [lstF, h, lstF_eq h ds]
noncomputable def frc : Nat → D → (D → β) → β
  | 0, d, k => k d
  | n + 1, d, k => match d with
    | .v v => valF v fun v' => k (.v v')
    | .agg cs => lstF (frc n) cs fun cs' => k (.agg cs')
    | .tup cs => lstF (frc n) cs fun cs' => k (.tup cs')
    | .own id ver off m sz => natF id fun id => natF ver fun ver => natF off fun off => natF m fun m => k (.own id ver off m sz)
    | .ptr id ver off => natF id fun id => natF ver fun ver => natF off fun off => k (.ptr id ver off)
    | .omp id ver => natF id fun id => natF ver fun ver => k (.omp id ver)
    | d => k d
theorem frc_eq : ∀ (n : Nat) (d : D) (k : D → β), frc n d k = k d
  | 0, _, _ => rfl
  | n + 1, d, k => by
    unfold frc
    cases d with
    | v x => exact valF_eq x fun v' => k (.v v')
    | agg cs => exact lstF_eq (frc_eq n) cs fun cs' => k (.agg cs')
    | tup cs => exact lstF_eq (frc_eq n) cs fun cs' => k (.tup cs')
    | own => simp only [natF_eq]
    | ptr => simp only [natF_eq]
    | omp => simp only [natF_eq]
    | _ => rfl
end

/-! ### Slots and blocks as tries -/
noncomputable def absE (t : Tr D) : Nat → D := fun i => (t.get i).getD (.v undef)
noncomputable def setO (t : Tr D) (o : Option Nat) (d : D) : Tr D := match o with | some k => t.set k d | none => t
theorem absE_set (t : Tr D) (o : Option Nat) (d : D) : absE (setO t o d) = updO (absE t) o d := by
  cases o with
  | none => rfl
  | some k =>
    funext j
    show ((t.set k d).get j).getD _ = bif Nat.beq j k then d else absE t j
    rw [Tr.get_set]
    by_cases h : j = k
    · subst h; rw [if_pos rfl, Nat.beq_refl]; rfl
    · rw [if_neg h, beq_false h]; rfl
noncomputable def setL (t : Tr D) : Nat → List D → Tr D
  | _, [] => t
  | off, d :: ds => setL (t.set off d) (off + 1) ds
theorem setL_get : ∀ (ds : List D) (t : Tr D) (off j : Nat), (setL t off ds).get j = if off ≤ j ∧ j < off + ds.length then ds[j - off]? else t.get j
  | [], t, off, j => by rw [setL, if_neg (by simp <;> omega)]
  | d :: ds, t, off, j => by
    rw [setL, setL_get ds]
    by_cases h : j = off
    · subst h
      rw [if_neg (by omega), if_pos (by simp), Tr.get_set, if_pos rfl]; simp
    · by_cases h2 : off ≤ j ∧ j < off + (d :: ds).length
      · rw [if_pos h2, if_pos (by simp at h2 ⊢; omega), show j - off = (j - (off + 1)) + 1 by omega, List.getElem?_cons_succ]
      · rw [if_neg h2, if_neg (by simp at h2 ⊢; omega), Tr.get_set, if_neg h]
structure EB where
  len : Nat
  cs : Tr D
  e : TypeId
  grow : Bool
  ver : Nat
noncomputable def EB.at (b : EB) (i : Nat) : D := (b.cs.get i).getD .any
noncomputable def EB.cells (b : EB) (off n : Nat) : List D := (List.range n).map fun j => b.at (off + j)
noncomputable def EB.abs (b : EB) : Blk := ⟨(List.range b.len).map b.at, b.e, b.grow, b.ver⟩
/-- 'b': blocks below it were there when the call began; 'w': how often one of them was written. -/
structure EH where
  n : Nat
  t : Tr (Option EB)
  b : Nat
  w : Nat
noncomputable def EH.abs (h : EH) : Heap := (List.range h.n).map fun i => ((h.t.get i).bind fun x => x).map EB.abs
noncomputable def EH.find (h : EH) (id : Nat) : Option EB := bif Nat.blt id h.n then (h.t.get id).bind (fun x => x) else none
theorem EB.abs_len (b : EB) : b.abs.cs.length = b.len := by simp [EB.abs]
theorem EB.abs_at {b : EB} {i : Nat} (h : i < b.len) : b.abs.cs[i]? = some (b.at i) := by simp [EB.abs, List.getElem?_map, List.getElem?_range h]
theorem EB.abs_part {b : EB} {off n : Nat} (h : off + n ≤ b.len) : (b.abs.cs.drop off).take n = b.cells off n := by
  apply List.ext_getElem?
  intro j
  by_cases hj : j < n
  · rw [List.getElem?_take, if_pos hj, List.getElem?_drop, EB.abs_at (by omega)]
    simp [EB.cells, List.getElem?_map, List.getElem?_range hj]
  · rw [List.getElem?_eq_none (by simp <;> omega), List.getElem?_eq_none (by simp [EB.cells] <;> omega)]
theorem EB.cells_len (b : EB) (off n : Nat) : (b.cells off n).length = n := by simp [EB.cells]
theorem EH.abs_len (h : EH) : h.abs.length = h.n := by simp [EH.abs]
theorem EH.abs_at {h : EH} {i : Nat} (hi : i < h.n) : h.abs[i]? = some (((h.t.get i).bind fun x => x).map EB.abs) := by simp [EH.abs, List.getElem?_map, List.getElem?_range hi]
theorem EH.find_abs {h : EH} {id : Nat} {b : EB} (hf : h.find id = some b) : id < h.n ∧ h.abs[id]? = some (some b.abs) := by
  unfold EH.find at hf
  cases hb : Nat.blt id h.n with
  | false => rw [hb] at hf; cases hf
  | true =>
    rw [hb] at hf
    have hlt : id < h.n := by simpa [Nat.blt_eq] using hb
    refine ⟨hlt, ?_⟩
    rw [EH.abs_at hlt]
    have : (h.t.get id).bind (fun x => x) = some b := hf
    rw [this]; rfl
noncomputable def EH.push (h : EH) (b : EB) : EH := ⟨h.n + 1, h.t.set h.n (some b), h.b, h.w⟩
noncomputable def EH.put (h : EH) (id : Nat) (b : EB) : EH := ⟨h.n, h.t.set id (some b), h.b, bif Nat.blt id h.b then h.w + 1 else h.w⟩
theorem EH.abs_push (h : EH) (b : EB) : (h.push b).abs = h.abs ++ [some b.abs] := by
  apply List.ext_getElem?
  intro j
  by_cases hj : j < h.n
  · rw [EH.abs_at (show j < (h.push b).n from Nat.lt_succ_of_lt hj), List.getElem?_append_left (by rw [EH.abs_len]; exact hj), EH.abs_at hj]
    show some (Option.map EB.abs (((h.t.set h.n (some b)).get j).bind fun x => x)) = _
    rw [Tr.get_set, if_neg (by omega)]
  · by_cases he : j = h.n
    · subst he
      rw [EH.abs_at (show h.n < (h.push b).n from Nat.lt_succ_self _), List.getElem?_append_right (by rw [EH.abs_len]; exact Nat.le_refl _), EH.abs_len, Nat.sub_self]
      show some (Option.map EB.abs (((h.t.set h.n (some b)).get h.n).bind fun x => x)) = _
      rw [Tr.get_set, if_pos rfl]; rfl
    · rw [List.getElem?_eq_none (by rw [EH.abs_len]; show h.n + 1 ≤ j; omega), List.getElem?_eq_none (by simp [EH.abs_len]; omega)]
theorem EH.abs_put {h : EH} {id : Nat} (b : EB) (hi : id < h.n) : (h.put id b).abs = h.abs.set id (some b.abs) := by
  apply List.ext_getElem?
  intro j
  rw [List.getElem?_set]
  by_cases hj : j < h.n
  · rw [EH.abs_at (show j < (h.put id b).n from hj)]
    show some (Option.map EB.abs (((h.t.set id (some b)).get j).bind fun x => x)) = _
    rw [Tr.get_set]
    by_cases he : id = j
    · subst he; rw [if_pos rfl, if_pos rfl, if_pos (by rw [EH.abs_len]; exact hj)]; rfl
    · rw [if_neg (Ne.symm he), if_neg he, EH.abs_at hj]
  · rw [List.getElem?_eq_none (by rw [EH.abs_len]; show h.n ≤ j; omega), if_neg (by omega), List.getElem?_eq_none (by rw [EH.abs_len]; omega)]
noncomputable def EH.kill (h : EH) (id : Nat) : EH := ⟨h.n, h.t.set id none, h.b, bif Nat.blt id h.b then h.w + 1 else h.w⟩
theorem EH.abs_kill {h : EH} {id : Nat} (hi : id < h.n) : (h.kill id).abs = h.abs.set id none := by
  apply List.ext_getElem?
  intro j
  rw [List.getElem?_set]
  by_cases hj : j < h.n
  · rw [EH.abs_at (show j < (h.kill id).n from hj)]
    show some (Option.map EB.abs (((h.t.set id none).get j).bind fun x => x)) = _
    rw [Tr.get_set]
    by_cases he : id = j
    · subst he; rw [if_pos rfl, if_pos rfl, if_pos (by rw [EH.abs_len]; exact hj)]; rfl
    · rw [if_neg (Ne.symm he), if_neg he, EH.abs_at hj]
  · rw [List.getElem?_eq_none (by rw [EH.abs_len]; show h.n ≤ j; omega), if_neg (by omega), List.getElem?_eq_none (by rw [EH.abs_len]; omega)]
/-- What there was stays, but for what is written. -/
structure Mono (H H' : EH) : Prop where
  b : H'.b = H.b
  n : H.n ≤ H'.n
  w : H.w ≤ H'.w
  same : H'.w = H.w → ∀ id, id < H.b → id < H.n → H'.t.get id = H.t.get id
theorem Mono.refl (H : EH) : Mono H H := ⟨rfl, Nat.le_refl _, Nat.le_refl _, fun _ _ _ _ => rfl⟩
theorem Mono.trans {H H' H'' : EH} (h : Mono H H') (h' : Mono H' H'') : Mono H H'' := ⟨h'.b.trans h.b, Nat.le_trans h.n h'.n, Nat.le_trans h.w h'.w, fun e id h1 h2 => by
  have a := h.w; have b := h'.w
  rw [h'.same (by omega) id (by rw [h.b]; exact h1) (Nat.lt_of_lt_of_le h2 h.n), h.same (by omega) id h1 h2]⟩
theorem Mono.push (H : EH) (b : EB) : Mono H (H.push b) := ⟨rfl, Nat.le_succ _, Nat.le_refl _, fun _ id _ h2 => by
  show (H.t.set H.n (some b)).get id = _
  rw [Tr.get_set, if_neg (by omega)]⟩
theorem Mono.put (H : EH) (id : Nat) (b : EB) : Mono H (H.put id b) := by
  refine ⟨rfl, Nat.le_refl _, ?_, fun e j h1 h2 => ?_⟩
  · show H.w ≤ (bif Nat.blt id H.b then H.w + 1 else H.w)
    cases Nat.blt id H.b <;> simp
  · show (H.t.set id (some b)).get j = _
    rw [Tr.get_set]
    by_cases hj : j = id
    · subst hj
      have e' : (bif Nat.blt j H.b then H.w + 1 else H.w) = H.w := e
      rw [show Nat.blt j H.b = true by simpa [Nat.blt_eq] using h1] at e'
      simp at e'
    · rw [if_neg hj]
theorem Mono.kill (H : EH) (id : Nat) : Mono H (H.kill id) := by
  refine ⟨rfl, Nat.le_refl _, ?_, fun e j h1 h2 => ?_⟩
  · show H.w ≤ (bif Nat.blt id H.b then H.w + 1 else H.w)
    cases Nat.blt id H.b <;> simp
  · show (H.t.set id none).get j = _
    rw [Tr.get_set]
    by_cases hj : j = id
    · subst hj
      have e' : (bif Nat.blt j H.b then H.w + 1 else H.w) = H.w := e
      rw [show Nat.blt j H.b = true by simpa [Nat.blt_eq] using h1] at e'
      simp at e'
    · rw [if_neg hj]
/-- Cells written from a place on. -/
noncomputable def EB.write (b : EB) (off : Nat) (ds : List D) : EB := { b with cs := setL b.cs off ds }
noncomputable def EB.app (b : EB) (off : Nat) (ds : List D) (ver : Nat) : EB := ⟨off + ds.length, setL b.cs off ds, b.e, true, ver⟩
noncomputable def EB.mk' (ds : List D) (e : TypeId) (grow : Bool) (ver : Nat) : EB := ⟨ds.length, setL .nil 0 ds, e, grow, ver⟩
theorem getD_some {α : Type} {o : Option α} {a d : α} (h : o = some a) : o.getD d = a := by rw [h]; rfl
theorem EB.abs_write {b : EB} {off : Nat} {ds : List D} (h : off + ds.length ≤ b.len) : (b.write off ds).abs = { b.abs with cs := spl b.abs.cs off ds } := by
  have e : (b.write off ds).abs.cs = spl b.abs.cs off ds := by
    apply List.ext_getElem?
    intro j
    rw [spl_get (by rw [EB.abs_len]; exact h)]
    by_cases hj : j < b.len
    · rw [EB.abs_at (show j < (b.write off ds).len from hj), EB.abs_at hj]
      show some (((setL b.cs off ds).get j).getD .any) = _
      rw [setL_get]
      by_cases h1 : j < off
      · rw [if_pos h1, if_neg (by omega)]; rfl
      · by_cases h2 : j < off + ds.length
        · rw [if_neg h1, if_pos h2, if_pos ⟨by omega, h2⟩, List.getElem?_eq_getElem (by omega)]; rfl
        · rw [if_neg h1, if_neg h2, if_neg (by omega)]; rfl
    · rw [List.getElem?_eq_none (by rw [EB.abs_len]; show b.len ≤ j; omega), if_neg (by omega), if_neg (by omega), List.getElem?_eq_none (by rw [EB.abs_len]; omega)]
  show Blk.mk _ _ _ _ = Blk.mk _ _ _ _
  rw [show (List.range (b.write off ds).len).map (b.write off ds).at = (b.write off ds).abs.cs from rfl, e]; rfl
theorem EB.abs_app {b : EB} {off : Nat} {ds : List D} (ver : Nat) (h : off ≤ b.len) : (b.app off ds ver).abs = ⟨b.abs.cs.take off ++ ds, b.e, true, ver⟩ := by
  have e : (b.app off ds ver).abs.cs = b.abs.cs.take off ++ ds := by
    apply List.ext_getElem?
    intro j
    have hl : (b.abs.cs.take off).length = off := by rw [List.length_take, EB.abs_len]; omega
    by_cases h1 : j < off
    · rw [EB.abs_at (show j < off + ds.length by omega), List.getElem?_append_left (by omega), List.getElem?_take, if_pos h1, EB.abs_at (by omega)]
      show some (((setL b.cs off ds).get j).getD .any) = _
      rw [setL_get, if_neg (by omega)]; rfl
    · rw [List.getElem?_append_right (by omega), hl]
      by_cases h2 : j < off + ds.length
      · rw [EB.abs_at (show j < off + ds.length from h2)]
        show some (((setL b.cs off ds).get j).getD .any) = _
        rw [setL_get, if_pos ⟨by omega, h2⟩, List.getElem?_eq_getElem (by omega)]; rfl
      · rw [List.getElem?_eq_none (by rw [EB.abs_len]; show off + ds.length ≤ j; omega), List.getElem?_eq_none (by omega)]
  show Blk.mk _ _ _ _ = Blk.mk _ _ _ _
  rw [show (List.range (b.app off ds ver).len).map (b.app off ds ver).at = (b.app off ds ver).abs.cs from rfl, e]; rfl
theorem EB.abs_mk' (ds : List D) (e : TypeId) (grow : Bool) (ver : Nat) : (EB.mk' ds e grow ver).abs = ⟨ds, e, grow, ver⟩ := by
  have e1 : (EB.mk' ds e grow ver).abs.cs = ds := by
    apply List.ext_getElem?
    intro j
    by_cases h1 : j < ds.length
    · rw [EB.abs_at (show j < ds.length from h1)]
      show some (((setL .nil 0 ds).get j).getD .any) = _
      rw [setL_get, if_pos ⟨Nat.zero_le _, by omega⟩, Nat.sub_zero, List.getElem?_eq_getElem h1]; rfl
    · rw [List.getElem?_eq_none (by rw [EB.abs_len]; show ds.length ≤ j; omega), List.getElem?_eq_none (by omega)]
  show Blk.mk _ _ _ _ = Blk.mk _ _ _ _
  rw [show (List.range (EB.mk' ds e grow ver).len).map (EB.mk' ds e grow ver).at = (EB.mk' ds e grow ver).abs.cs from rfl, e1]; rfl
/-! The same, forced. -/
section
variable {β : Type}
noncomputable def setOK (t : Tr D) (o : Option Nat) (d : D) (k : Tr D → β) : β := match o with | some i => Tr.setK d (i + 1) i t k | none => k t
theorem setOK_eq (t : Tr D) (o : Option Nat) (d : D) (k : Tr D → β) : setOK t o d k = k (setO t o d) := by cases o with | none => rfl | some i => exact Tr.setK_eq d (i + 1) i t k
noncomputable def setLK : List D → Tr D → Nat → (Tr D → β) → β
  | [], t, _, k => k t
  | d :: ds, t, off, k => frc 4 d fun d' => Tr.setK d' (off + 1) off t fun t' => natF (off + 1) fun off' => setLK ds t' off' k
theorem setLK_eq : ∀ (ds : List D) (t : Tr D) (off : Nat) (k : Tr D → β), setLK ds t off k = k (setL t off ds)
  | [], _, _, _ => rfl
  | d :: ds, t, off, k => by rw [setLK, frc_eq, Tr.setK_eq, natF_eq, setLK_eq ds]; rfl
noncomputable def pushK (h : EH) (b : EB) (k : EH → β) : β := Tr.setK (some b) (h.n + 1) h.n h.t fun t' => natF (h.n + 1) fun n' => k ⟨n', t', h.b, h.w⟩
theorem pushK_eq (h : EH) (b : EB) (k : EH → β) : pushK h b k = k (h.push b) := by unfold pushK; rw [Tr.setK_eq, natF_eq]; rfl
noncomputable def putK (h : EH) (id : Nat) (b : EB) (k : EH → β) : β := Tr.setK (some b) (id + 1) id h.t fun t' => natF (bif Nat.blt id h.b then h.w + 1 else h.w) fun w' => k ⟨h.n, t', h.b, w'⟩
theorem putK_eq (h : EH) (id : Nat) (b : EB) (k : EH → β) : putK h id b k = k (h.put id b) := by unfold putK; rw [Tr.setK_eq, natF_eq]; rfl
noncomputable def killK (h : EH) (id : Nat) (k : EH → β) : β := Tr.setK (none : Option EB) (id + 1) id h.t fun t' => natF (bif Nat.blt id h.b then h.w + 1 else h.w) fun w' => k ⟨h.n, t', h.b, w'⟩
theorem killK_eq (h : EH) (id : Nat) (k : EH → β) : killK h id k = k (h.kill id) := by unfold killK; rw [Tr.setK_eq, natF_eq]; rfl
noncomputable def writeK (b : EB) (off : Nat) (ds : List D) (k : EB → β) : β := setLK ds b.cs off fun t => k { b with cs := t }
theorem writeK_eq (b : EB) (off : Nat) (ds : List D) (k : EB → β) : writeK b off ds k = k (b.write off ds) := by unfold writeK; rw [setLK_eq]; rfl
noncomputable def appK (b : EB) (off : Nat) (ds : List D) (ver : Nat) (k : EB → β) : β := setLK ds b.cs off fun t => natF (off + ds.length) fun n => natF ver fun ver => k ⟨n, t, b.e, true, ver⟩
theorem appK_eq (b : EB) (off : Nat) (ds : List D) (ver : Nat) (k : EB → β) : appK b off ds ver k = k (b.app off ds ver) := by unfold appK; rw [setLK_eq, natF_eq, natF_eq]; rfl
noncomputable def mkK (ds : List D) (e : TypeId) (grow : Bool) (ver : Nat) (k : EB → β) : β := setLK ds .nil 0 fun t => natF ds.length fun n => k ⟨n, t, e, grow, ver⟩
theorem mkK_eq (ds : List D) (e : TypeId) (grow : Bool) (ver : Nat) (k : EB → β) : mkK ds e grow ver k = k (EB.mk' ds e grow ver) := by unfold mkK; rw [setLK_eq, natF_eq]; rfl
end
theorem absE_ofL (ds : List D) : absE (setL .nil 0 ds) = env0 ds := by
  funext j
  show ((setL .nil 0 ds).get j).getD _ = (ds[j]?).getD _
  rw [setL_get]
  by_cases h : j < ds.length
  · rw [if_pos ⟨Nat.zero_le _, by omega⟩, Nat.sub_zero]
  · rw [if_neg (by omega), List.getElem?_eq_none (by omega)]; rfl
end Go.DL
