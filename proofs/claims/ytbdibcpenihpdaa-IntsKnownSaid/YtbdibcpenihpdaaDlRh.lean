/-
  A logic of data for the walks: a cell that holds a nil slice, told as an own row that is nil as yet. Of any program; no condition.
-/
import Derived.Test.YtbdibcpenihpdaaDlRg
set_option linter.unusedSimpArgs false
set_option linter.unusedVariables false
namespace Go.DL
open Go.RowKit

theorem WS.redo {C : Ctx} {K : Mem} {β : Nat → Nat → BT} {H : Heap} {w : World} (h : WS C K β H w) {id : Nat} {b b' : Blk} (hb : H[id]? = some (some b)) (hv : b'.ver = b.ver) (hR : BlkR K β (β id b.ver) b' (w.heap[(β id b.ver).blk]?)) (ho : ∀ c ∈ b'.cs, OkD H c) : WS C K β (H.set id (some b')) w := by
  have hid : id < H.length := (List.getElem?_eq_some_iff.1 hb).1
  have hle : HLe H (H.set id (some b')) := HLe.set hb (by rw [hv]; exact Nat.le_refl _)
  have split : ∀ {i : Nat} {x : Blk}, (H.set id (some b'))[i]? = some (some x) → (i = id ∧ x = b') ∨ (i ≠ id ∧ H[i]? = some (some x)) := by
    intro i x hx
    rw [List.getElem?_set] at hx
    by_cases e : id = i
    · rw [if_pos e, if_pos hid] at hx; simp at hx; exact .inl ⟨e.symm, hx.symm⟩
    · rw [if_neg e] at hx; exact .inr ⟨Ne.symm e, hx⟩
  refine ⟨h.holds, fun i x hx => ?_, fun i x hx c hc => ?_, fun i j x y hx hy hri hrj he => ?_, fun i x hx hr => ?_, fun i x hx hr => ?_, h.size, h.below, h.agr, h.hle.trans hle, h.kle⟩
  · rcases split hx with ⟨rfl, rfl⟩ | ⟨hi, hx⟩
    · rw [hv]; exact hR
    · exact h.blk i x hx
  · rcases split hx with ⟨rfl, rfl⟩ | ⟨hi, hx⟩
    · exact (ho c hc).mono hle
    · exact (h.ok i x hx c hc).mono hle
  · rcases split hx with ⟨rfl, rfl⟩ | ⟨hi, hx1⟩ <;> rcases split hy with ⟨hj, rfl⟩ | ⟨hj, hy1⟩
    · exact hj.symm
    · rw [hv] at hri he; exact h.inj _ j b y hb hy1 hri hrj he
    · subst hj; rw [hv] at hrj he; exact h.inj i _ x b hx1 hb hri hrj he
    · exact h.inj i j x y hx1 hy1 hri hrj he
  · rcases split hx with ⟨rfl, rfl⟩ | ⟨hi, hx⟩
    · rw [hv] at hr ⊢; exact h.apart _ b hb hr
    · exact h.apart i x hx hr
  · rcases split hx with ⟨rfl, rfl⟩ | ⟨hi, hx⟩
    · rw [hv] at hr ⊢; exact h.base _ b hb hr
    · exact h.base i x hx hr
theorem BlkR.nilCell {K : Mem} {β : Nat → Nat → BT} {t : BT} {b : Blk} {o : Option Obj} (h : BlkR K β t b o) {off id sz : Nat} (hc : b.cs[off]? = some (.v (.slice none 0 0))) (hn : (β id 0).st = .none) : BlkR K β t { b with cs := b.cs.set off (.own id 0 0 0 sz) } o := by
  unfold BlkR at *
  cases hs : t.st with
  | none => rw [hs] at h; have h : b.cs = [] := h; rw [h] at hc; cases hc
  | cells =>
    rw [hs] at h
    obtain ⟨us, rest, e, hl, ht, hg, hd⟩ := h
    refine ⟨us, rest, e, by simpa using hl, ht, hg, fun j u d hu hd' => ?_⟩
    simp only at hd'
    rw [List.getElem?_set] at hd'
    by_cases e2 : off = j
    · subst e2
      rw [if_pos rfl] at hd'
      split at hd'
      · cases hd'
        rw [(hd off u _ hu hc).v_inv]; exact .own0 _ _ _ hn
      · cases hd'
    · rw [if_neg e2] at hd'; exact hd j u d hu hd'
  | map =>
    rw [hs] at h
    obtain ⟨es, ck, e, hE⟩ := h
    have hlt : off < b.cs.length := (List.getElem?_eq_some_iff.1 hc).1
    have hes : off < es.size := by rw [hE.len]; exact hlt
    obtain ⟨dv, e3, _⟩ := hE.rd off es[off] _ (Array.getElem?_eq_getElem hes) hc
    cases e3
/-- A cell that holds a nil slice: from here on an own row, nil as yet, the newest block. -/
theorem WC.nilCell {P : Program} {C : Ctx} {N : Nat} {s : St} {Q : DX → St → Prop} {c : Code} (id off : Nat) (b : Blk) (e : TypeId) (sz : Nat) (hb : s.H[id]? = some (some b)) (hc : b.cs[off]? = some (.v (.slice none 0 0))) (h : WC P C N c ⟨s.env, (s.H ++ [some (⟨[], e, true, 0⟩ : Blk)]).set id (some { b with cs := b.cs.set off (.own s.H.length 0 0 0 sz) })⟩ Q) : WC P C N c s Q := by
  intro K β a w hs
  have hid : id < s.H.length := (List.getElem?_eq_some_iff.1 hb).1
  have hb' : (s.H ++ [some (⟨[], e, true, 0⟩ : Blk)])[id]? = some (some b) := by rw [List.getElem?_append_left hid]; exact hb
  have h1 := hs.ws.newNil e
  have hβ : ∀ v, addB β s.H.length 0 ⟨0, 0, .none⟩ id v = β id v := fun v => addB_ne (.inl (by omega))
  have hle1 : HLe s.H (s.H ++ [some (⟨[], e, true, 0⟩ : Blk)]) := HLe.app _ _
  have hle2 : HLe (s.H ++ [some (⟨[], e, true, 0⟩ : Blk)]) ((s.H ++ [some (⟨[], e, true, 0⟩ : Blk)]).set id (some { b with cs := b.cs.set off (.own s.H.length 0 0 0 sz) })) := HLe.set hb' (Nat.le_refl _)
  have h2 := h1.redo (b' := { b with cs := b.cs.set off (.own s.H.length 0 0 0 sz) }) hb' rfl ((h1.blk id b hb').nilCell hc (by rw [addB_at])) fun c hc' => by
    rcases List.mem_or_eq_of_mem_set hc' with h3 | rfl
    · exact h1.ok id b hb' c h3
    · refine .own _ _ _ _ _ ?_
      unfold okV
      rw [List.getElem?_append_right (Nat.le_refl _), Nat.sub_self]
      exact Nat.le_refl _
  have hs' : SR C N K (addB β s.H.length 0 ⟨0, 0, .none⟩) ⟨s.env, (s.H ++ [some (⟨[], e, true, 0⟩ : Blk)]).set id (some { b with cs := b.cs.set off (.own s.H.length 0 0 0 sz) })⟩ a w :=
    ⟨h2, hs.size, hs.defers, fun t => (hs.rd t).mono (Mem.le.refl K) (fun _ => hs.ok t) addB_agr, fun t => (hs.ok t).mono (hle1.trans hle2)⟩
  exact wpIn_mono (h K _ a w hs') fun e a' w' hA => hA.mono ⟨KX.refl _ _, addB_agr, hle1.trans hle2⟩ fun _ _ h => h
theorem one_ok {H : Heap} {d : D} (h : OkD H d) : ∀ c ∈ [d], OkD H c := fun c hc => by
  rw [List.mem_singleton] at hc
  subst hc; exact h
end Go.DL
