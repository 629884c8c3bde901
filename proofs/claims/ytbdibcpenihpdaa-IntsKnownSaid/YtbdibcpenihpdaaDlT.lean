/-
  A row of the call's own handed over within a region. Of any program.
-/
import Derived.Test.YtbdibcpenihpdaaDlS
set_option linter.unusedSimpArgs false
set_option linter.unusedVariables false
namespace Go.DL
open Go.RowKit
/-- An operation that hands a row of the call's own over for good: from here on it stays as it is. -/
theorem OpD.frzL {P : Program} {C : Ctx} {o : Oper} {env : Nat → D} {H H' : Heap} {d : D} (id : Nat) (b : Blk) (L : List (Nat × D)) (hb : H[id]? = some (some b)) (hp : ∀ c ∈ b.cs, Pure' c) (hL : Frz1L id b env L) (h : OpD P C o (updL env L) (H.set id none) d H') : OpD P C o env H d H' := by
  refine ⟨(HLe.kill H id).trans h.len, fun K β a w Kc Q hw hx hk hq => ?_⟩
  obtain ⟨K', hK, hw', hz⟩ := hw.frz1 hb hp
  have hev : ∀ x, ev (updL env L) x = ev env x ∨ Frz1 id b (ev env x) (ev (updL env L) x) := by
    intro x
    cases x with
    | tmp t =>
      rcases updL_at env L t with ⟨p, hp', rfl, h2⟩ | ⟨_, h2⟩
      · right
        show Frz1 id b (env p.1) (updL env L p.1)
        rw [h2]; exact hL.at p hp'
      · left; exact h2
    | _ => left; rfl
  refine h.go K' β a w Kc Q hw' (fun x hxm => ?_) (fun x hxm => ?_) fun K'' β' v w' kx ag ws dr ok => ?_
  · rcases hev x with e | e
    · rw [e]; exact (hx x hxm).mono hK.le (fun _ => hk x hxm) (Agr.refl _ _)
    · exact hz _ _ _ (hx x hxm) e
  · rcases hev x with e | e
    · rw [e]; exact (hk x hxm).mono (HLe.kill _ _)
    · exact e.ok _
  · have e1 : Ext C K β H K' β (H.set id none) := ⟨hK, Agr.refl _ _, HLe.kill _ _⟩
    have e2 : Ext C K' β (H.set id none) K'' β' H' := ⟨kx, ag, h.len⟩
    have e3 := e1.trans e2
    exact hq K'' β' v w' e3.kx e3.ag ws dr ok
end Go.DL
