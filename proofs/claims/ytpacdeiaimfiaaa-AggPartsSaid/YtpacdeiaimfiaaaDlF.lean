/-
  A logic of data for the walks: regions that draw their order. What each operation makes is told once, in the text's order; in whatever order the edges allow the same comes out. Plain lemmas over any program; no condition.
-/
import Derived.Test.YtpacdeiaimfiaaaDlB
import Derived.CheckFast
set_option linter.unusedSimpArgs false
set_option linter.unusedVariables false
namespace Go.DL
open Go.RowKit

/-- Operation j is carried out ahead of operation i, by edges. -/
inductive Bf (ops : Array Oper) : Nat → Nat → Prop
  | one {i : Nat} {o : Oper} (h : ops[i]? = some o) {e : Edge} (he : e ∈ o.after) (hb : Region.binds .any e = true) : Bf ops e.on i
  | more {i j : Nat} {o : Oper} (h : ops[i]? = some o) {e : Edge} (he : e ∈ o.after) (hb : Region.binds .any e = true) (r : Bf ops j e.on) : Bf ops j i
def Closed (ops : Array Oper) (L : Nat → Bool) : Prop := ∀ (i : Nat) o, L i = true → ops[i]? = some o → ∀ e ∈ o.after, Region.binds .any e = true → L e.on = true
theorem Closed.bf {ops : Array Oper} {L : Nat → Bool} (h : Closed ops L) {i j : Nat} (hb : Bf ops j i) (hi : L i = true) : L j = true := by
  induction hb with
  | one h1 he hb => exact h _ _ hi h1 _ he hb
  | more h1 he hb _ ih => exact ih (h _ _ hi h1 _ he hb)
theorem Closed.ready {ops : Array Oper} {L : Nat → Bool} (h : Closed ops L) {i j : Nat} {o : Oper} (ho : ops[i]? = some o) (hr : ∀ e ∈ o.after, Region.binds .any e = true → L e.on = true) (hb : Bf ops j i) : L j = true := by
  cases hb with
  | one h1 he hb => rw [ho] at h1; cases h1; exact hr _ he hb
  | more h1 he hb r => rw [ho] at h1; cases h1; exact h.bf r (hr _ he hb)

theorem mask_sound (ops : Array Oper) (i : Nat) (o : Oper) (ho : ops[i]? = some o) (look : Nat → Nat) (hl : ∀ k j, (look k).testBit j = true → Bf ops j k) (j : Nat) (h : (Go.CheckFast.one look o).testBit j = true) : Bf ops j i := by
  unfold Go.CheckFast.one at h
  rw [← Array.foldl_toList] at h
  have key : ∀ (l : List Edge) (s : Nat), (∀ e ∈ l, e ∈ o.after) → (s.testBit j = true → Bf ops j i) → (l.foldl (fun s e => if Region.binds .any e then s ||| 2 ^ e.on ||| look e.on else s) s).testBit j = true → Bf ops j i := by
    intro l
    induction l with
    | nil => intro s _ hs h; exact hs h
    | cons e l ih =>
      intro s hm hs h
      rw [List.foldl_cons] at h
      refine ih _ (fun e he => hm e (by simp [he])) (fun h => ?_) h
      by_cases hb : Region.binds .any e = true
      · rw [if_pos hb, Nat.testBit_or, Nat.testBit_or] at h
        simp only [Bool.or_eq_true] at h
        rcases h with (h | h) | h
        · exact hs h
        · rw [Nat.testBit_two_pow] at h
          have : e.on = j := by simpa using h
          subst this
          exact .one ho (hm e (by simp)) hb
        · exact .more ho (hm e (by simp)) hb (hl _ _ h)
      · rw [if_neg hb] at h; exact hs h
  exact key o.after.toList 0 (fun e he => by simpa using he) (by simp) h
theorem before_sound (ops : Array Oper) : ∀ i j, ((Go.CheckFast.beforeF ops).getD i 0).testBit j = true → Bf ops j i := by
  rw [Go.CheckFast.beforeF_eq]
  unfold Region.before
  rw [← Array.foldl_toList]
  have key : ∀ (l : List Oper) (acc : Array Nat), (∀ k (o : Oper), l[k]? = some o → ops[acc.size + k]? = some o) → (∀ i j, (acc.getD i 0).testBit j = true → Bf ops j i) →
      ∀ i j, ((l.foldl (fun acc o => acc.push (Go.CheckFast.one (fun k => acc.getD k 0) o)) acc).getD i 0).testBit j = true → Bf ops j i := by
    intro l
    induction l with
    | nil => intro acc _ h; exact h
    | cons o l ih =>
      intro acc hl ha
      rw [List.foldl_cons]
      refine ih _ (fun k o' hk => by have := hl (k + 1) o' (by simpa using hk); simpa [Nat.add_assoc, Nat.add_comm 1 k] using this) fun i j h => ?_
      by_cases hi : i < acc.size
      · rw [show (acc.push (Go.CheckFast.one (fun k => acc.getD k 0) o)).getD i 0 = acc.getD i 0 by simp [Array.getD_eq_getD_getElem?, Array.getElem?_push, show ¬ i = acc.size by omega]] at h
        exact ha i j h
      · by_cases he : i = acc.size
        · subst he
          rw [show (acc.push (Go.CheckFast.one (fun k => acc.getD k 0) o)).getD acc.size 0 = Go.CheckFast.one (fun k => acc.getD k 0) o by simp [Array.getD_eq_getD_getElem?]] at h
          exact mask_sound ops acc.size o (by simpa using hl 0 o rfl) _ ha j h
        · rw [show (acc.push (Go.CheckFast.one (fun k => acc.getD k 0) o)).getD i 0 = 0 by rw [Array.getD_eq_getD_getElem?, Array.getElem?_eq_none (by simp; omega)]; rfl] at h
          simp at h
  exact fun i j h => key ops.toList #[] (fun k o hk => by simpa using hk) (by simp [Array.getD]) i j h

/-- Do two operations name one slot that one of them writes? ('looks' are the slots that one reads.) -/
def clash (ops : Array Oper) (x y : Oper) : Bool :=
  (match x.dst with | some d => (y.looksAt ops).elem d || (match y.dst with | some d' => Nat.beq d d' | none => false) | none => false) ||
  (match y.dst with | some d => (x.looksAt ops).elem d | none => false)
/-- Operations that clash, and operations that change blocks, stand in one order; edges lead back. 'cs': which ones change blocks. -/
def drawOK (ops : Array Oper) (cs : List Bool) : Bool :=
  let b := Go.CheckFast.beforeF ops
  (List.range ops.size).all fun i => match ops[i]? with
    | none => true
    | some x => x.after.toList.all (fun e => !Region.binds .any e || Nat.blt e.on i) &&
      (List.range i).all fun j => match ops[j]? with
        | none => true
        | some y => !(clash ops x y || (cs.getD i false && cs.getD j false)) || (b.getD i 0).testBit j
theorem drawOK_edge {ops : Array Oper} {cs : List Bool} (h : drawOK ops cs = true) {i : Nat} {o : Oper} (ho : ops[i]? = some o) {e : Edge} (he : e ∈ o.after) (hb : Region.binds .any e = true) : e.on < i := by
  have hi : i < ops.size := (Array.getElem?_eq_some_iff.1 ho).1
  unfold drawOK at h
  have h1 := List.all_eq_true.1 h i (by simpa using hi)
  simp only [ho, Bool.and_eq_true] at h1
  have h2 := List.all_eq_true.1 h1.1 e (by simpa using he)
  simpa [hb, Nat.blt_eq] using h2
theorem drawOK_pair {ops : Array Oper} {cs : List Bool} (h : drawOK ops cs = true) {i j : Nat} {x y : Oper} (hx : ops[i]? = some x) (hy : ops[j]? = some y) (hji : j < i) (hc : clash ops x y = true ∨ (cs.getD i false = true ∧ cs.getD j false = true)) : Bf ops j i := by
  have hi : i < ops.size := (Array.getElem?_eq_some_iff.1 hx).1
  unfold drawOK at h
  have h1 := List.all_eq_true.1 h i (by simpa using hi)
  simp only [hx, Bool.and_eq_true] at h1
  have h2 := List.all_eq_true.1 h1.2 j (by simpa using hji)
  simp only [hy] at h2
  refine before_sound ops i j ?_
  have hA : (clash ops x y || (cs.getD i false && cs.getD j false)) = true := by
    rcases hc with hc | ⟨c1, c2⟩
    · rw [hc]; rfl
    · rw [c1, c2]; simp
  rw [hA] at h2
  simpa only [Bool.not_true, Bool.false_or] using h2
theorem clash_spec {ops : Array Oper} {x y : Oper} {d : Nat} : (x.dst = some d → d ∈ y.looksAt ops → clash ops x y = true) ∧ (y.dst = some d → d ∈ x.looksAt ops → clash ops x y = true) ∧ (x.dst = some d → y.dst = some d → clash ops x y = true) := by
  refine ⟨fun h1 h2 => ?_, fun h1 h2 => ?_, fun h1 h2 => ?_⟩
  · unfold clash; simp [h1, h2]
  · unfold clash; simp [h1, h2]
  · unfold clash; simp [h1, h2]

/-- One operation of a region, its guard looked at: it looks at its slots alone. -/
structure Stp (P : Program) (C : Ctx) (N : Nat) (ops : Array Oper) (i : Nat) (env : Nat → D) (H : Heap) (d : D) (H' : Heap) : Prop where
  len : HLe H H'
  go : ∀ (o : Oper), ops[i]? = some o → ∀ K β (a : Act) (w : World) (Kc : Act → World → Prop) (Q : Exit → Act → World → Prop), WS C K β H w → a.tmps.size = N → (∀ t ∈ o.looksAt ops, DR K β true (a.tmps.getD t undef) (env t) ∧ OkD H (env t)) →
    (∀ K' β' v w', KX C K K' → Agr H β β' → WS C K' β' H' w' → DR K' β' true v d → OkD H' d → Kc (a.put o.dst v) w') → wpOpIn (FW C.rd) 0 P ops Q i Kc a w

/-- A region's steps, told in the text's order: what each makes; does it change blocks; the blocks behind it. 'Hs': the blocks at which a step that changes none may come. -/
inductive Plan (P : Program) (C : Ctx) (N : Nat) (ops : Array Oper) (Hs : Heap → Prop) : Nat → List Oper → (Nat → D) → Heap → List (D × Bool × Heap) → (Nat → D) → Heap → Prop
  | nil (i : Nat) (env H) : Plan P C N ops Hs i [] env H [] env H
  | pure {i : Nat} {o : Oper} {rest : List Oper} {env H l env' H'} (d : D) (hf : fits N o = true) (h : ∀ H, Hs H → Stp P C N ops i env H d H) (r : Plan P C N ops Hs (i + 1) rest (updO env o.dst d) H l env' H') : Plan P C N ops Hs i (o :: rest) env H ((d, false, H) :: l) env' H'
  | chg {i : Nat} {o : Oper} {rest : List Oper} {env H l env' H'} (d : D) (H1 : Heap) (hf : fits N o = true) (h : Stp P C N ops i env H d H1) (r : Plan P C N ops Hs (i + 1) rest (updO env o.dst d) H1 l env' H') : Plan P C N ops Hs i (o :: rest) env H ((d, true, H1) :: l) env' H'

section
variable (ops : Array Oper) (l : List (D × Bool × Heap)) (L : Nat → Bool) (env0 : Nat → D) (H0 : Heap)
/-- What slots hold when the steps of L below m have been carried out. -/
def EL : Nat → (Nat → D)
  | 0 => env0
  | i + 1 => if L i = true then (match ops[i]?, l[i]? with | some o, some s => updO (EL i) o.dst s.1 | _, _ => EL i) else EL i
def HL : Nat → Heap
  | 0 => H0
  | i + 1 => if L i = true then (match l[i]? with | some s => if s.2.1 = true then s.2.2 else HL i | none => HL i) else HL i
end
theorem EL_congr {ops : Array Oper} {l : List (D × Bool × Heap)} {L L' : Nat → Bool} {env0 : Nat → D} {t : Nat} : ∀ m, (∀ (j : Nat) o, j < m → ops[j]? = some o → o.dst = some t → L j = L' j) → EL ops l L env0 m t = EL ops l L' env0 m t
  | 0, _ => rfl
  | m + 1, h => by
    have ih := EL_congr (l := l) (env0 := env0) m (fun j o hj => h j o (by omega))
    unfold EL
    cases ho : ops[m]? with
    | none => simpa using ih
    | some o =>
      cases hs : l[m]? with
      | none => simpa using ih
      | some s =>
        by_cases hd : o.dst = some t
        · rw [h m o (by omega) ho hd]
          by_cases hL : L' m = true
          · rw [if_pos hL, if_pos hL]; simp only [hd, updO, upd_at]
          · rw [if_neg hL, if_neg hL]; exact ih
        · have hu : ∀ e : Nat → D, updO e o.dst s.1 t = e t := by
            intro e
            cases hdd : o.dst with
            | none => rfl
            | some d => exact upd_ne _ _ (fun he => hd (by rw [hdd, he]))
          by_cases h1 : L m = true <;> by_cases h2 : L' m = true <;> simp only [h1, h2, if_true, if_false, Bool.false_eq_true, hu] <;> exact ih
theorem HL_congr {l : List (D × Bool × Heap)} {L L' : Nat → Bool} {H0 : Heap} : ∀ m, (∀ (j : Nat) s, j < m → l[j]? = some s → s.2.1 = true → L j = L' j) → HL l L H0 m = HL l L' H0 m
  | 0, _ => rfl
  | m + 1, h => by
    have ih := HL_congr (H0 := H0) m (fun j s hj => h j s (by omega))
    unfold HL
    cases hs : l[m]? with
    | none => simpa using ih
    | some s =>
      by_cases hn : s.2.1 = true
      · rw [h m s (by omega) hs hn]
        by_cases hL : L' m = true
        · rw [if_pos hL, if_pos hL]; simp only [hn, if_true]
        · rw [if_neg hL, if_neg hL]; exact ih
      · by_cases h1 : L m = true <;> by_cases h2 : L' m = true <;> simp [h1, h2, hn] <;> exact ih
/-- Steps that are not listed do nothing. -/
theorem EL_stop {ops : Array Oper} {l : List (D × Bool × Heap)} {L : Nat → Bool} {env0 : Nat → D} {t i : Nat} : ∀ m, i ≤ m → (∀ (j : Nat) o, i ≤ j → j < m → ops[j]? = some o → o.dst = some t → L j = false) → EL ops l L env0 m t = EL ops l L env0 i t
  | 0, h, _ => by have : i = 0 := by omega
                  subst this; rfl
  | m + 1, h, hn => by
    by_cases he : i = m + 1
    · subst he; rfl
    · have ih := EL_stop (l := l) (env0 := env0) m (by omega) (fun j o h1 h2 => hn j o h1 (by omega))
      rw [← ih]
      conv => lhs; unfold EL
      cases ho : ops[m]? with
      | none => simp
      | some o =>
        cases hs : l[m]? with
        | none => simp
        | some s =>
          by_cases hd : o.dst = some t
          · rw [hn m o (by omega) (by omega) ho hd]; simp
          · by_cases h1 : L m = true
            · simp only [h1, if_true]
              cases hdd : o.dst with
              | none => rfl
              | some d => exact upd_ne _ _ (fun he => hd (by rw [hdd, he]))
            · rw [if_neg h1]
theorem HL_all {l : List (D × Bool × Heap)} {L : Nat → Bool} {H0 : Heap} {Hs : Heap → Prop} (h0 : Hs H0) (h : ∀ x ∈ l, x.2.1 = true → Hs x.2.2) : ∀ m, Hs (HL l L H0 m)
  | 0 => h0
  | m + 1 => by
    have ih := HL_all (L := L) h0 h m
    unfold HL
    split
    · cases hs : l[m]? with
      | none => exact ih
      | some s =>
        show Hs (if s.2.1 = true then s.2.2 else _)
        split
        · exact h s (List.mem_of_getElem? hs) (by assumption)
        · exact ih
    · exact ih
theorem HL_stop {l : List (D × Bool × Heap)} {L : Nat → Bool} {H0 : Heap} {i : Nat} : ∀ m, i ≤ m → (∀ (j : Nat) s, i ≤ j → j < m → l[j]? = some s → s.2.1 = true → L j = false) → HL l L H0 m = HL l L H0 i
  | 0, h, _ => by have : i = 0 := by omega
                  subst this; rfl
  | m + 1, h, hn => by
    by_cases he : i = m + 1
    · subst he; rfl
    · have ih := HL_stop (H0 := H0) m (by omega) (fun j s h1 h2 => hn j s h1 (by omega))
      rw [← ih]
      conv => lhs; unfold HL
      cases hs : l[m]? with
      | none => simp
      | some s =>
        by_cases hd : s.2.1 = true
        · rw [hn m s (by omega) (by omega) hs hd]; simp
        · simp [hd]

theorem Plan.length {P : Program} {C : Ctx} {N : Nat} {ops : Array Oper} {Hs : Heap → Prop} {i : Nat} {rest : List Oper} {env H l env' H'} (h : Plan P C N ops Hs i rest env H l env' H') : l.length = rest.length := by
  induction h with
  | nil => rfl
  | pure _ _ _ _ ih => simp [ih]
  | chg _ _ _ _ _ ih => simp [ih]
theorem Plan.at {P : Program} {C : Ctx} {N : Nat} {ops : Array Oper} {Hs : Heap → Prop} {env0 : Nat → D} {H0 : Heap} {l0 : List (D × Bool × Heap)} {i : Nat} {rest : List Oper} {env H l env' H'} (h : Plan P C N ops Hs i rest env H l env' H')
    (ho : ∀ k, rest[k]? = ops[i + k]?) (hl : ∀ k, l[k]? = l0[i + k]?) (he : env = EL ops l0 (fun _ => true) env0 i) (hh : H = HL l0 (fun _ => true) H0 i) :
    (∀ (k : Nat) s, i ≤ k → l0[k]? = some s → fits N (ops.getD k default) = true ∧ (s.2.1 = false → ∀ H, Hs H → Stp P C N ops k (EL ops l0 (fun _ => true) env0 k) H s.1 H) ∧
      (s.2.1 = true → Stp P C N ops k (EL ops l0 (fun _ => true) env0 k) (HL l0 (fun _ => true) H0 k) s.1 s.2.2)) ∧ env' = EL ops l0 (fun _ => true) env0 (i + rest.length) ∧ H' = HL l0 (fun _ => true) H0 (i + rest.length) := by
  induction h with
  | nil i env H =>
    refine ⟨fun k s hk hs => ?_, by simpa using he, by simpa using hh⟩
    have := hl (k - i)
    rw [show i + (k - i) = k by omega, hs] at this
    simp at this
  | @pure i o rest env H l env' H' d hf h r ih =>
    have ho0 : ops[i]? = some o := by simpa using (ho 0).symm
    have hl0 : l0[i]? = some (d, false, H) := by simpa using (hl 0).symm
    have ih' := ih (fun k => by have := ho (k + 1); simpa [Nat.add_assoc, Nat.add_comm 1 k] using this) (fun k => by have := hl (k + 1); simpa [Nat.add_assoc, Nat.add_comm 1 k] using this)
      (by subst he; show _ = EL _ _ _ _ (i + 1); rw [EL]; simp [ho0, hl0]) (by subst hh; show _ = HL _ _ _ (i + 1); rw [HL]; simp [hl0])
    refine ⟨fun k s hk hs => ?_, by rw [ih'.2.1]; congr 1; simp; omega, by rw [ih'.2.2]; congr 1; simp; omega⟩
    by_cases e : k = i
    · subst e
      rw [hl0] at hs; cases hs
      refine ⟨by simp [Array.getD_eq_getD_getElem?, ho0]; exact hf, fun _ H' hH => he ▸ h H' hH, fun hx => by cases hx⟩
    · exact ih'.1 k s (by omega) hs
  | @chg i o rest env H l env' H' d H1 hf h r ih =>
    have ho0 : ops[i]? = some o := by simpa using (ho 0).symm
    have hl0 : l0[i]? = some (d, true, H1) := by simpa using (hl 0).symm
    have ih' := ih (fun k => by have := ho (k + 1); simpa [Nat.add_assoc, Nat.add_comm 1 k] using this) (fun k => by have := hl (k + 1); simpa [Nat.add_assoc, Nat.add_comm 1 k] using this)
      (by subst he; show _ = EL _ _ _ _ (i + 1); rw [EL]; simp [ho0, hl0]) (by show _ = HL _ _ _ (i + 1); rw [HL]; simp [hl0])
    refine ⟨fun k s hk hs => ?_, by rw [ih'.2.1]; congr 1; simp; omega, by rw [ih'.2.2]; congr 1; simp; omega⟩
    by_cases e : k = i
    · subst e
      rw [hl0] at hs; cases hs
      refine ⟨by simp [Array.getD_eq_getD_getElem?, ho0]; exact hf, fun hx => (by cases hx), fun _ => by subst he hh; exact h⟩
    · exact ih'.1 k s (by omega) hs

/-- How many of the first m are not listed. -/
def UL : Nat → (Nat → Bool) → Nat
  | 0, _ => 0
  | m + 1, L => UL m L + (if L m = true then 0 else 1)
theorem UL_le : ∀ m (L : Nat → Bool), UL m L ≤ m
  | 0, _ => Nat.le_refl _
  | m + 1, L => by unfold UL; have := UL_le m L; split <;> omega
theorem UL_zero {L : Nat → Bool} : ∀ {m}, UL m L = 0 → ∀ i, i < m → L i = true
  | 0, _, i, hi => by omega
  | m + 1, h, i, hi => by
    unfold UL at h
    by_cases e : i = m
    · subst e
      by_cases hL : L i = true
      · exact hL
      · rw [if_neg hL] at h; omega
    · have h' : UL m L = 0 := by revert h; split <;> omega
      exact UL_zero h' i (by omega)
theorem UL_mono {L L' : Nat → Bool} (h : ∀ j, L j = true → L' j = true) : ∀ m, UL m L' ≤ UL m L
  | 0 => Nat.le_refl _
  | m + 1 => by
    unfold UL
    have := UL_mono h m
    by_cases h1 : L m = true
    · rw [if_pos h1, if_pos (h m h1)]; exact this
    · rw [if_neg h1]; split <;> omega
theorem UL_lt {L L' : Nat → Bool} : ∀ m i, i < m → L i = false → L' i = true → (∀ j, L j = true → L' j = true) → UL m L' < UL m L
  | 0, i, hi, _, _, _ => by omega
  | m + 1, i, hi, h1, h2, h => by
    unfold UL
    by_cases e : i = m
    · subst e
      have := UL_mono h i
      rw [h1, h2]; simp; omega
    · have := UL_lt m i (by omega) h1 h2 h
      by_cases h3 : L m = true
      · rw [if_pos h3, if_pos (h m h3)]; omega
      · rw [if_neg h3]; split <;> omega
theorem getD_bool {A : Array Bool} {i : Nat} (h : i < A.size) {b b' : Bool} : A.getD i b = A.getD i b' := by simp [Array.getD, h]
theorem drawn_end {C : Ctx} {N : Nat} {ol : List Oper} {l : List (D × Bool × Heap)} {K K1 : Mem} {β1 : Nat → Nat → BT} {a : Act} {w : World} {s : St} {listed : Array Bool} {β : Nat → Nat → BT} {Q : DX → St → Prop} {env' : Nat → D} {H' : Heap} (hK : Ext C K β s.H K1 β1 (HL l (fun i => listed.getD i true) s.H ol.length))
    (hw : WS C K1 β1 (HL l (fun i => listed.getD i true) s.H ol.length) w) (hN : a.tmps.size = N) (hdf : Marks C.B K1 a.defers) (hrd : ∀ t, DR K1 β1 true (a.tmps.getD t undef) (EL ol.toArray l (fun i => listed.getD i true) s.env ol.length t))
    (hokd : ∀ t, OkD (HL l (fun i => listed.getD i true) s.H ol.length) (EL ol.toArray l (fun i => listed.getD i true) s.env ol.length t)) (hall : ∀ i, i < ol.length → listed.getD i true = true)
    (he' : env' = EL ol.toArray l (fun _ => true) s.env (0 + ol.length)) (hh' : H' = HL l (fun _ => true) s.H (0 + ol.length)) (hq : Q .normal ⟨env', H'⟩) : AftX C N K β s.H Q .normal a w := by
  rw [Nat.zero_add] at he' hh'
  have e1 : HL l (fun i => listed.getD i true) s.H ol.length = H' := by rw [hh']; exact HL_congr _ fun j _ hj _ _ => hall j hj
  have e2 : ∀ t, EL ol.toArray l (fun i => listed.getD i true) s.env ol.length t = env' t := by intro t; rw [he']; exact EL_congr _ fun j _ hj _ _ => hall j hj
  rw [e1] at hw hokd hK
  exact ⟨K1, β1, ⟨env', H'⟩, .normal, hK, ⟨hw, hN, hdf, fun t => by have := hrd t; rw [e2] at this; exact this, fun t => by have := hokd t; rw [e2] at this; exact this⟩, trivial, hq⟩

/-- A region that draws its order: its plan, in the text's order. -/
theorem WC.drawn {P : Program} {C : Ctx} {N : Nat} {s : St} {Q : DX → St → Prop} {id : Nat} {ol : List Oper} (Hs : Heap → Prop) (l : List (D × Bool × Heap)) (env' : Nat → D) (H' : Heap) (hm : P.follows .mixedOrders = true)
    (hp : Plan P C N ol.toArray Hs 0 ol s.env s.H l env' H') (hok : drawOK ol.toArray (l.map fun s => s.2.1) = true) (hHs : (∀ H, Hs H) ∨ (Hs s.H ∧ ∀ x ∈ l, x.2.1 = true → Hs x.2.2)) (hq : Q .normal ⟨env', H'⟩) : WC P C N (.region id ol.toArray true) s Q := by
  intro K β a w hs
  obtain ⟨hst, he', hh'⟩ := hp.at (env0 := s.env) (H0 := s.H) (l0 := l) (by simp) (by simp) rfl rfl
  have hlen : l.length = ol.length := hp.length
  refine wpIn_region_any hm ?_
  let n := ol.length
  let Lof : Array Bool → Nat → Bool := fun listed i => listed.getD i true
  have key : ∀ (fuel : Nat) (listed : Array Bool) (K1 : Mem) (β1 : Nat → Nat → BT) (a : Act) (w : World), listed.size = ol.length → UL ol.length (fun i => listed.getD i true) ≤ fuel → Closed ol.toArray (fun i => listed.getD i true) → Ext C K β s.H K1 β1 (HL l (fun i => listed.getD i true) s.H ol.length) →
      WS C K1 β1 (HL l (fun i => listed.getD i true) s.H ol.length) w → a.tmps.size = N → Marks C.B K1 a.defers →
      (∀ t, DR K1 β1 true (a.tmps.getD t undef) (EL ol.toArray l (fun i => listed.getD i true) s.env ol.length t)) → (∀ t, OkD (HL l (fun i => listed.getD i true) s.H ol.length) (EL ol.toArray l (fun i => listed.getD i true) s.env ol.length t)) →
      wpAnyIn (FW C.rd) 0 P .any ol.toArray (AftX C N K β s.H Q) fuel listed a w := by
    intro fuel
    induction fuel with
    | zero =>
      intro listed K1 β1 a w hsz hU hcl hK hw hN hdf hrd hokd
      have hall : ∀ i, i < ol.length → listed.getD i true = true := fun i hi => UL_zero (L := fun i => listed.getD i true) (m := ol.length) (by omega) i hi
      refine ⟨?_, ?_⟩
      · rw [List.eq_nil_iff_forall_not_mem]
        intro i hi
        obtain ⟨h0, o, ho, _⟩ := mem_ready.1 hi
        have := hall i (by have := (Array.getElem?_eq_some_iff.1 ho).1; simpa using this)
        rw [this] at h0; cases h0
      · exact drawn_end hK hw hN hdf hrd hokd hall he' hh' hq
    | succ fuel ih =>
      intro listed K1 β1 a w hsz hU hcl hK hw hN hdf hrd hokd
      refine ⟨fun hnil => ?_, fun i hi => ?_⟩
      · have hall : ∀ i, i < ol.length → listed.getD i true = true := by
          intro i
          induction i using Nat.strongRecOn with
          | _ i ihi =>
            intro hi
            cases hL : listed.getD i true with
            | true => rfl
            | false =>
              exfalso
              have : i ∈ Region.ready .any ol.toArray listed := mem_ready.2 ⟨hL, ol[i], by simp [hi], fun e he hb => by
                have hlt := drawOK_edge hok (i := i) (o := ol[i]) (by simp [hi]) he hb
                have := ihi e.on hlt (by omega)
                rwa [getD_bool (by omega)] at this⟩
              rw [hnil] at this; cases this
        exact drawn_end hK hw hN hdf hrd hokd hall he' hh' hq
      · obtain ⟨hLi, o, ho, hed⟩ := mem_ready.1 hi
        have hin : i < ol.length := by have := (Array.getElem?_eq_some_iff.1 ho).1; simpa using this
        have hol : ol.toArray.getD i default = o := by rw [Array.getD_eq_getD_getElem?, ho]; rfl
        have hed' : ∀ e ∈ o.after, Region.binds .any e = true → listed.getD e.on true = true := fun e he hb => by
          have := hed e he hb
          have hlt := drawOK_edge hok ho he hb
          rw [getD_bool (by omega)]; exact this
        have hs' : l[i]? = some (l[i]'(by omega)) := List.getElem?_eq_getElem (by omega)
        obtain ⟨hfit, hP, hM⟩ := hst i _ (Nat.zero_le _) hs'
        rw [hol] at hfit
        generalize hsi : l[i]'(by omega) = si at *
        -- what it reads
        have hread : ∀ t ∈ o.looksAt ol.toArray, EL ol.toArray l (fun i => listed.getD i true) s.env ol.length t = EL ol.toArray l (fun _ => true) s.env i t := by
          intro t ht
          rw [EL_stop (i := i) ol.length (by omega) fun j oj h1 h2 hoj hd => ?_]
          · refine EL_congr i fun j oj h1 hoj hd => ?_
            exact hcl.ready ho hed' (drawOK_pair hok ho hoj h1 (.inl (clash_spec.2.1 hd ht)))
          · by_cases e : j = i
            · subst e; exact hLi
            · cases hLj : listed.getD j true with
              | false => rfl
              | true =>
                have this : listed.getD i true = true := hcl.bf (drawOK_pair hok hoj ho (by omega) (.inl (clash_spec.1 hd ht))) hLj
                rw [hLi] at this; cases this
        have hset : ∀ j, (listed.setIfInBounds i true).getD j true = if j = i then true else listed.getD j true := by
          intro j
          by_cases e : j = i
          · subst e; rw [if_pos rfl]; simp [hsz, hin]
          · rw [if_neg e, getD_set_ne true (Ne.symm e)]
        have hcl' : Closed ol.toArray (fun j => (listed.setIfInBounds i true).getD j true) := by
          intro j oj hj hoj e he hb
          simp only [hset] at hj ⊢
          by_cases ej : j = i
          · subst ej
            rw [ho] at hoj; cases hoj
            by_cases e2 : e.on = j
            · rw [if_pos e2]
            · rw [if_neg e2]; exact hed' e he hb
          · rw [if_neg ej] at hj
            by_cases e2 : e.on = i
            · rw [if_pos e2]
            · rw [if_neg e2]; exact hcl j oj hj hoj e he hb
        have hU' : UL ol.length (fun j => (listed.setIfInBounds i true).getD j true) ≤ fuel := by
          have := UL_lt (L := fun j => listed.getD j true) (L' := fun j => (listed.setIfInBounds i true).getD j true) ol.length i hin hLi (by simp only [hset, if_true]) (fun j hj => by simp only [hset]; split; rfl; exact hj)
          omega
        have hEL' : ∀ t, EL ol.toArray l (fun j => (listed.setIfInBounds i true).getD j true) s.env ol.length t = updO (EL ol.toArray l (fun j => listed.getD j true) s.env ol.length) o.dst si.1 t := by
          intro t
          by_cases hd : o.dst = some t
          · rw [EL_stop (i := i + 1) ol.length (by omega) fun j oj h1 h2 hoj hdj => ?_]
            · rw [EL]; simp only [hset, if_true, ho, hs', hd, updO, upd_at]
            · have hji : j ≠ i := by omega
              simp only [hset, if_neg hji]
              cases hLj : listed.getD j true with
              | false => rfl
              | true =>
                have this : listed.getD i true = true := hcl.bf (drawOK_pair hok hoj ho (by omega) (.inl (clash_spec.2.2 hdj hd))) hLj
                rw [hLi] at this; cases this
          · rw [EL_congr (L' := fun j => listed.getD j true) ol.length fun j oj h1 hoj hdj => ?_]
            · cases hdd : o.dst with
              | none => rfl
              | some d => exact (upd_ne _ _ (fun he => hd (by rw [hdd, he]))).symm
            · have hji : j ≠ i := by intro e; subst e; rw [ho] at hoj; cases hoj; exact hd hdj
              simp only [hset, if_neg hji]
        have fin : ∀ H1, H1 = HL l (fun j => (listed.setIfInBounds i true).getD j true) s.H ol.length → ∀ (Ho : Heap), Ho = HL l (fun j => listed.getD j true) s.H ol.length → HLe Ho H1 →
            ∀ K' β' v w', KX C K1 K' → Agr Ho β1 β' → WS C K' β' H1 w' → DR K' β' true v si.1 → OkD H1 si.1 →
            wpAnyIn (FW C.rd) 0 P .any ol.toArray (AftX C N K β s.H Q) fuel (listed.setIfInBounds i true) (a.put o.dst v) w' := by
          intro H1 e1 Ho e2 hle K' β' v w' hx hβ hw' hv ho'
          subst e2
          have hold : SR C N K1 β1 ⟨EL ol.toArray l (fun j => listed.getD j true) s.env ol.length, HL l (fun j => listed.getD j true) s.H ol.length⟩ a w := ⟨hw, hN, hdf, hrd, hokd⟩
          have hnew := hold.put hx.le hβ hw' hle hv ho' hfit
          subst e1
          refine ih (listed.setIfInBounds i true) K' β' _ w' (by simp [hsz]) hU' hcl' (hK.trans ⟨hx, hβ, hle⟩) hw' hnew.size hnew.defers (fun t => ?_) fun t => ?_
          · rw [hEL']; exact hnew.rd t
          · rw [hEL']; exact hnew.ok t
        have hcs : ∀ (j : Nat) sj, l[j]? = some sj → (l.map fun s => s.2.1).getD j false = sj.2.1 := by
          intro j sj hj
          rw [List.getD_eq_getElem?_getD, List.getElem?_map, hj]; rfl
        cases hc : si.2.1 with
        | false =>
          have hHs' : Hs (HL l (fun j => listed.getD j true) s.H ol.length) := by
            rcases hHs with h | ⟨h1, h2⟩
            · exact h _
            · exact HL_all h1 h2 _
          have hsame : HL l (fun j => (listed.setIfInBounds i true).getD j true) s.H ol.length = HL l (fun j => listed.getD j true) s.H ol.length := by
            refine HL_congr ol.length fun j sj h1 hj hn => ?_
            have hji : j ≠ i := by intro e; subst e; rw [hs'] at hj; cases hj; rw [hc] at hn; cases hn
            simp only [hset, if_neg hji]
          refine (hP hc _ hHs').go o ho K1 β1 a w _ _ hw hN (fun t ht => ⟨by rw [← hread t ht]; exact hrd t, by rw [← hread t ht]; exact hokd t⟩) fun K' β' v w' hx hβ hw' hv ho' => ?_
          exact fin _ hsame.symm _ rfl (HLe.refl _) K' β' v w' hx hβ hw' hv ho'
        | true =>
          have hcur : HL l (fun j => listed.getD j true) s.H ol.length = HL l (fun _ => true) s.H i := by
            rw [HL_stop (i := i) ol.length (by omega) fun j sj h1 h2 hj hn => ?_]
            · refine HL_congr i fun j sj h1 hj hn => ?_
              refine hcl.ready ho hed' (drawOK_pair hok ho (y := ol[j]) (by simp) h1 (.inr ⟨by rw [hcs i si hs']; exact hc, by rw [hcs j sj hj]; exact hn⟩))
            · by_cases e : j = i
              · subst e; exact hLi
              · cases hLj : listed.getD j true with
                | false => rfl
                | true =>
                  have this : listed.getD i true = true := hcl.bf (drawOK_pair hok (x := ol[j]) (i := j) (by simp) ho (by omega) (.inr ⟨by rw [hcs j sj hj]; exact hn, by rw [hcs i si hs']; exact hc⟩)) hLj
                  rw [hLi] at this; cases this
          have hnext : HL l (fun j => (listed.setIfInBounds i true).getD j true) s.H ol.length = si.2.2 := by
            rw [HL_stop (i := i + 1) ol.length (by omega) fun j sj h1 h2 hj hn => ?_]
            · rw [HL]; simp only [hset, if_true, hs', hc]
            · have hji : j ≠ i := by omega
              simp only [hset, if_neg hji]
              cases hLj : listed.getD j true with
              | false => rfl
              | true =>
                have this : listed.getD i true = true := hcl.bf (drawOK_pair hok (x := ol[j]) (i := j) (by simp) ho (by omega) (.inr ⟨by rw [hcs j sj hj]; exact hn, by rw [hcs i si hs']; exact hc⟩)) hLj
                rw [hLi] at this; cases this
          have hStp := hM hc
          rw [← hcur] at hStp
          refine hStp.go o ho K1 β1 a w _ _ hw hN (fun t ht => ⟨by rw [← hread t ht]; exact hrd t, by rw [← hread t ht]; exact hokd t⟩) fun K' β' v w' hx hβ hw' hv ho' => ?_
          exact fin _ hnext.symm _ rfl hStp.len K' β' v w' hx hβ hw' hv ho'
  have hrep : ∀ j, (Array.replicate ol.toArray.size false).getD j true = (if j < ol.length then false else true) := by
    intro j
    rw [Array.getD_eq_getD_getElem?, Array.getElem?_replicate]
    simp only [List.size_toArray]
    split <;> rfl
  have hE0 : ∀ t, EL ol.toArray l (fun j => (Array.replicate ol.toArray.size false).getD j true) s.env ol.length t = s.env t := by
    intro t
    rw [EL_stop (i := 0) ol.length (by omega) fun j o _ h2 _ _ => by simp only [hrep, if_pos h2]]
    rfl
  have hH0 : HL l (fun j => (Array.replicate ol.toArray.size false).getD j true) s.H ol.length = s.H := by
    rw [HL_stop (i := 0) ol.length (by omega) fun j o _ h2 _ _ => by simp only [hrep, if_pos h2]]
    rfl
  have hd : ({ w with drawn := w.drawn + 1 } : World) = w.drew := rfl
  rw [hd]
  refine key ol.toArray.size _ K β a w.drew (by simp) (by simpa using UL_le _ _) ?_ (by rw [hH0]; exact Ext.refl _ _ _ _) (by rw [hH0]; exact hs.ws.drew) hs.size hs.defers (fun t => by rw [hE0]; exact hs.rd t) (fun t => by rw [hE0, hH0]; exact hs.ok t)
  intro i o hi ho
  simp only [hrep] at hi
  have : i < ol.length := by have := (Array.getElem?_eq_some_iff.1 ho).1; simpa using this
  rw [if_pos this] at hi; cases hi
end Go.DL
