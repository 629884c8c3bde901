/-
  A logic of data for the walks, second part: states, operations, regions walked in the text's order, code, calls. Plain lemmas over any program; no condition.
-/
import Derived.Test.YtpacdeiaimfiaaaDlA
import Derived.Deep.LoopGhost
set_option linter.unusedSimpArgs false
set_option linter.unusedVariables false
namespace Go.DL
open Go.RowKit

/-- More memory that stays, all of it from block B on, or given. -/
structure KX (C : Ctx) (K K' : Mem) : Prop where
  le : Mem.le K K'
  new : ∀ b c, K' b = some c → K b = some c ∨ C.owns b
theorem KX.refl (C : Ctx) (K : Mem) : KX C K K := ⟨Mem.le.refl K, fun _ _ h => .inl h⟩
theorem KX.trans {C : Ctx} {K K' K'' : Mem} (h : KX C K K') (h' : KX C K' K'') : KX C K K'' :=
  ⟨h.le.trans h'.le, fun b c x => (h'.new b c x).elim (fun x => h.new b c x) .inr⟩
theorem KX.mono {C C' : Ctx} {K K' : Mem} (h : KX C K K') (hb : ∀ k, C.owns k → C'.owns k) : KX C' K K' := ⟨h.le, fun b c x => (h.new b c x).imp id (hb b)⟩
/-- A call that is given nothing. -/
def bare (w : World) : Ctx := ⟨w.heap.size, w, fun _ => False, none, [], fun _ _ => ⟨0, 0, .none⟩, fun _ => none⟩
theorem bare_owns {w : World} {C : Ctx} (h : C.B ≤ w.heap.size) (k : Nat) (hk : (bare w).owns k) : C.owns k := by
  rcases hk with h1 | h1
  · exact .inl (Nat.le_trans h h1)
  · exact h1.elim

/-- What there was is there: memory that stays, where blocks lie, how far they have come. -/
structure Ext (C : Ctx) (K : Mem) (β : Nat → Nat → BT) (H : Heap) (K' : Mem) (β' : Nat → Nat → BT) (H' : Heap) : Prop where
  kx : KX C K K'
  ag : Agr H β β'
  le : HLe H H'
theorem Ext.refl (C : Ctx) (K : Mem) (β : Nat → Nat → BT) (H : Heap) : Ext C K β H K β H := ⟨KX.refl _ _, Agr.refl _ _, HLe.refl _⟩
theorem Ext.trans {C : Ctx} {K K' K'' : Mem} {β β' β'' : Nat → Nat → BT} {H H' H'' : Heap} (h : Ext C K β H K' β' H') (h' : Ext C K' β' H' K'' β'' H'') : Ext C K β H K'' β'' H'' :=
  ⟨h.kx.trans h'.kx, fun i v hv => (h'.ag i v (h.le i v hv)).trans (h.ag i v hv), h.le.trans h'.le⟩

structure St where
  env : Nat → D
  H : Heap
def ev (env : Nat → D) : Operand → D
  | .tmp t => env t
  | .const v => .v v
  | .global g => .v (.pointer (some ⟨g, 0, none⟩))
  | .func f => .v (.func (.func f) #[] #[])
def upd (env : Nat → D) (k : Nat) (d : D) : Nat → D := fun j => bif Nat.beq j k then d else env j
theorem upd_at (env : Nat → D) (k : Nat) (d : D) : upd env k d k = d := by simp [upd]
theorem upd_ne (env : Nat → D) {k j : Nat} (d : D) (h : j ≠ k) : upd env k d j = env j := by
  unfold upd
  cases hb : Nat.beq j k with
  | false => rfl
  | true => exact absurd (Nat.eq_of_beq_eq_true hb) h
def updO (env : Nat → D) (k : Option Nat) (d : D) : Nat → D := match k with | some k => upd env k d | none => env

structure SR (C : Ctx) (N : Nat) (K : Mem) (β : Nat → Nat → BT) (s : St) (a : Act) (w : World) : Prop where
  ws : WS C K β s.H w
  size : a.tmps.size = N
  defers : Marks C.B K a.defers
  rd : ∀ t, DR K β true (a.tmps.getD t undef) (s.env t)
  ok : ∀ t, OkD s.H (s.env t)
section
variable {C : Ctx} {N : Nat} {K K' : Mem} {β β' : Nat → Nat → BT} {s : St} {a : Act} {w w' : World} {P : Program}
theorem SR.ev (h : SR C N K β s a w) (x : Operand) : DR K β true (a.eval x) (ev s.env x) := by
  cases x with
  | tmp t => exact h.rd t
  | const v => exact .v _ _
  | global g => exact .v _ _
  | func f => exact .v _ _
theorem SR.evok (h : SR C N K β s a w) (x : Operand) : OkD s.H (DL.ev s.env x) := by
  cases x with
  | tmp t => exact h.ok t
  | const v => exact .v _
  | global g => exact .v _
  | func f => exact .v _
def fits (N : Nat) (o : Oper) : Bool := match o.dst with | some d => Nat.blt d N | none => true
theorem SR.put (h : SR C N K β s a w) (hK : Mem.le K K') (hβ : Agr s.H β β') {H' : Heap} (hw : WS C K' β' H' w') (hl : HLe s.H H') {v : Value} {d : D} (hv : DR K' β' true v d) (ho : OkD H' d)
    {o : Oper} (hf : fits N o = true) : SR C N K' β' ⟨updO s.env o.dst d, H'⟩ (a.put o.dst v) w' := by
  unfold fits at hf
  cases hd : o.dst with
  | none => exact ⟨hw, h.size, h.defers.mono hK, fun t => (h.rd t).mono hK (fun _ => h.ok t) hβ, fun t => (h.ok t).mono hl⟩
  | some k =>
    rw [hd] at hf
    have hk : k < N := by simpa [Nat.blt_eq] using hf
    refine ⟨hw, by simp [Act.put, h.size], h.defers.mono hK, fun t => ?_, fun t => ?_⟩
    · show DR K' β' true ((a.tmps.setIfInBounds k v).getD t undef) (upd s.env k d t)
      by_cases e : t = k
      · subst e
        rw [upd_at, Array.getD_eq_getD_getElem?, Array.getElem?_setIfInBounds_self_of_lt (by rw [h.size]; exact hk)]
        exact hv
      · rw [upd_ne _ _ e, Array.getD_eq_getD_getElem?, Array.getElem?_setIfInBounds_ne (Ne.symm e), ← Array.getD_eq_getD_getElem?]
        exact (h.rd t).mono hK (fun _ => h.ok t) hβ
    · show OkD H' (upd s.env k d t)
      by_cases e : t = k
      · subst e; rw [upd_at]; exact ho
      · rw [upd_ne _ _ e]; exact (h.ok t).mono hl
end

/-- What an operation makes: a datum, and the blocks behind it; it looks at its operands alone. -/
structure OpD (P : Program) (C : Ctx) (o : Oper) (env : Nat → D) (H : Heap) (d : D) (H' : Heap) : Prop where
  len : HLe H H'
  go : ∀ K β a w (Kc : Act → World → Prop) (Q : Exit → Act → World → Prop), WS C K β H w → (∀ x ∈ o.op.operands, DR K β true (a.eval x) (ev env x)) → (∀ x ∈ o.op.operands, OkD H (ev env x)) →
    (∀ K' β' v w', KX C K K' → Agr H β β' → WS C K' β' H' w' → DR K' β' true v d → OkD H' d → Kc (a.put o.dst v) w') → o.wpIn (FW C.rd) 0 P a w Kc Q

/-- How code ends, by data. -/
inductive DX where
  | normal
  | exit (id : Nat)
  | goto (l : Nat)
  | ret
  | panic (d : D)
def XR (K : Mem) (β : Nat → Nat → BT) (H : Heap) : Exit → DX → Prop
  | .normal, .normal => True
  | .exit i, .exit j => i = j
  | .goto i, .goto j => i = j
  | .ret, .ret => True
  | .panic ch, .panic d => ∃ v, ch = [{ v, recovered := false }] ∧ DR K β true v d ∧ OkD H d
  | _, _ => False
/-- The state behind code: as the relation says, with memory that grew. -/
def AftX (C : Ctx) (N : Nat) (K : Mem) (β : Nat → Nat → BT) (H : Heap) (Q : DX → St → Prop) (e : Exit) (a : Act) (w : World) : Prop := ∃ K' β' s' x, Ext C K β H K' β' s'.H ∧ SR C N K' β' s' a w ∧ XR K' β' s'.H e x ∧ Q x s'
theorem AftX.mono {C : Ctx} {N : Nat} {K K' : Mem} {β β' : Nat → Nat → BT} {H H' : Heap} {Q Q' : DX → St → Prop} {e : Exit} {a : Act} {w : World} (h : AftX C N K' β' H' Q e a w) (hK : Ext C K β H K' β' H') (hF : ∀ x s, Q x s → Q' x s) : AftX C N K β H Q' e a w :=
  let ⟨K'', β'', s', x, h1, h2, h3, h4⟩ := h; ⟨K'', β'', s', x, hK.trans h1, h2, h3, hF _ _ h4⟩

/-- The rest of a region, walked in the text's order. -/
def RG (P : Program) (C : Ctx) (N : Nat) (ops : Array Oper) (rest : List Oper) (s : St) (F : DX → St → Prop) : Prop :=
  ∀ K β a w (Q : Exit → Act → World → Prop), SR C N K β s a w → (∀ e a' w', AftX C N K β s.H F e a' w' → Q e a' w') → wpListIn (FW C.rd) 0 P ops Q rest a w

/-- What a call ends in. -/
inductive DOut where
  | ret (d : D)
  | pan (d : D)
/-- What an operation may make, or throw: as R says. -/
structure OpX (P : Program) (C : Ctx) (o : Oper) (env : Nat → D) (H : Heap) (R : DOut → Heap → Prop) : Prop where
  go : ∀ K β a w (Kc : Act → World → Prop) (Q : Exit → Act → World → Prop), WS C K β H w → (∀ x ∈ o.op.operands, DR K β true (a.eval x) (ev env x)) → (∀ x ∈ o.op.operands, OkD H (ev env x)) →
    (∀ K' β' v w' d H', R (.ret d) H' → Ext C K β H K' β' H' → WS C K' β' H' w' → DR K' β' true v d → OkD H' d → Kc (a.put o.dst v) w') →
    (∀ K' β' v w' d H', R (.pan d) H' → Ext C K β H K' β' H' → WS C K' β' H' w' → DR K' β' true v d → OkD H' d → Q (.panic [{ v, recovered := false }]) a w') → o.wpIn (FW C.rd) 0 P a w Kc Q

section
variable {P : Program} {C : Ctx} {N : Nat} {ops : Array Oper} {rest : List Oper} {o : Oper} {s : St} {F : DX → St → Prop}
theorem SR.stay {K K' : Mem} {β β' : Nat → Nat → BT} {s : St} {H' : Heap} {a : Act} {w w' : World} (h : SR C N K β s a w) (hx : Ext C K β s.H K' β' H') (hw : WS C K' β' H' w') : SR C N K' β' ⟨s.env, H'⟩ a w' :=
  ⟨hw, h.size, h.defers.mono hx.kx.le, fun t => (h.rd t).mono hx.kx.le (fun _ => h.ok t) hx.ag, fun t => (h.ok t).mono hx.le⟩
theorem RG.nil (h : F .normal s) : RG P C N ops [] s F := fun K β _ _ _ hs hq => hq _ _ _ ⟨K, β, s, .normal, Ext.refl _ _ _ _, hs, trivial, h⟩
theorem RG.op (d : D) (H' : Heap) (hg : o.guard = none) (hf : fits N o = true) (h : OpD P C o s.env s.H d H') (hr : RG P C N ops rest ⟨updO s.env o.dst d, H'⟩ F) : RG P C N ops (o :: rest) s F := by
  intro K β a w Q hs hq
  refine listW_plain hg fun Kc hK => ?_
  refine h.go K β a w Kc Q hs.ws (fun x _ => hs.ev x) (fun x _ => hs.evok x) fun K' β' v w' hx hβ hw hv ho => hK _ _ ?_
  exact hr K' β' _ w' Q (hs.put hx.le hβ hw h.len hv ho hf) fun e a' w'' hA => hq _ _ _ (hA.mono ⟨hx, hβ, h.len⟩ fun _ _ h => h)
/-- An operation of which only a relation is known, or that may throw. -/
theorem RG.opX (R : DOut → Heap → Prop) (hg : o.guard = none) (hf : fits N o = true) (h : OpX P C o s.env s.H R) (hr : ∀ d H', R (.ret d) H' → RG P C N ops rest ⟨updO s.env o.dst d, H'⟩ F) (hp : ∀ d H', R (.pan d) H' → F (.panic d) ⟨s.env, H'⟩) : RG P C N ops (o :: rest) s F := by
  intro K β a w Q hs hq
  refine listW_plain hg fun Kc hK => ?_
  refine h.go K β a w Kc Q hs.ws (fun x _ => hs.ev x) (fun x _ => hs.evok x) (fun K' β' v w' d H' hR hx hw hv ho => hK _ _ ?_) fun K' β' v w' d H' hR hx hw hv ho => ?_
  · exact hr d H' hR K' β' _ w' Q (hs.put hx.kx.le hx.ag hw hx.le hv ho hf) fun e a' w'' hA => hq _ _ _ (hA.mono hx fun _ _ h => h)
  · exact hq _ _ _ ⟨K', β', ⟨s.env, H'⟩, .panic d, hx, hs.stay hx hw, ⟨v, rfl, hv, ho⟩, hp d H' hR⟩
end

/-- A guarded operation's datum: what it makes where its guard lets it, else nothing. -/
def gd (b : Bool) (d : D) : D := bif b then d else .v undef
theorem yielded_of {K : Mem} {β : Nat → Nat → BT} {ops : Array Oper} {j t : Nat} {a : Act} {b : Bool} (ht : (ops[j]?).bind (·.dst) = some t) (hlt : t < a.tmps.size) (h : DR K β true (a.tmps.getD t undef) (.v (.bool b))) : yielded ops a.tmps j = some b := by
  have e : a.tmps.getD t undef = .bool b := h.v_inv
  unfold yielded
  rw [ht]
  have e' : a.tmps[t]? = some (.bool b) := by
    rw [Array.getElem?_eq_getElem hlt]
    rw [Array.getD_eq_getD_getElem?, Array.getElem?_eq_getElem hlt] at e
    simpa using e
  simp [e']
section
variable {P : Program} {C : Ctx} {N : Nat} {ops : Array Oper} {rest : List Oper} {o : Oper} {s : St} {F : DX → St → Prop}
theorem RG.opg (b : Bool) (j : Nat) (want : Bool) (t : Nat) (d : D) (hg : o.guard = some (j, want)) (ht : (ops[j]?).bind (·.dst) = some t) (hlt : Nat.blt t N = true) (hb : s.env t = .v (.bool b)) (hf : fits N o = true)
    (h : b = want → OpD P C o s.env s.H d s.H) (hr : RG P C N ops rest ⟨updO s.env o.dst (gd (b == want) d), s.H⟩ F) : RG P C N ops (o :: rest) s F := by
  intro K β a w Q hs hq
  have hy : yielded ops a.tmps j = some b := yielded_of ht (by rw [hs.size]; simpa [Nat.blt_eq] using hlt) (hb ▸ hs.rd t)
  refine listW_step fun Kc hK => ?_
  have hw : Region.wanted o (yielded ops a.tmps) = (b == want) := by
    simp only [Region.wanted, hg, hy]
    cases b <;> cases want <;> rfl
  rw [hw]
  cases hbw : (b == want) with
  | true =>
    simp only [if_true]
    have hbw' : b = want := by simpa using hbw
    rw [hbw] at hr
    refine (h hbw').go K β a w Kc Q hs.ws (fun x _ => hs.ev x) (fun x _ => hs.evok x) fun K' β' v w' hx hβ hw hv ho => hK _ _ ?_
    exact hr K' β' _ w' Q (hs.put hx.le hβ hw (HLe.refl _) hv ho hf) fun e a' w'' hA => hq _ _ _ (hA.mono ⟨hx, hβ, HLe.refl _⟩ fun _ _ h => h)
  | false =>
    simp only [Bool.false_eq_true, if_false]
    rw [hbw] at hr
    exact hK _ _ (hr K β _ w Q (hs.put (Mem.le.refl K) (Agr.refl _ _) hs.ws (HLe.refl _) (.v _ _) (.v _) hf) fun e a' w'' hA => hq _ _ _ hA)
/-- A guarded operation, way by way. -/
theorem RG.opgX (b : Bool) (j : Nat) (want : Bool) (t : Nat) (R : DOut → Heap → Prop) (hg : o.guard = some (j, want)) (ht : (ops[j]?).bind (·.dst) = some t) (hlt : Nat.blt t N = true) (hb : s.env t = .v (.bool b)) (hf : fits N o = true)
    (h : b = want → OpX P C o s.env s.H R) (hr : b = want → ∀ d H', R (.ret d) H' → RG P C N ops rest ⟨updO s.env o.dst d, H'⟩ F) (hp : b = want → ∀ d H', R (.pan d) H' → F (.panic d) ⟨s.env, H'⟩)
    (hn : b ≠ want → RG P C N ops rest ⟨updO s.env o.dst (.v undef), s.H⟩ F) : RG P C N ops (o :: rest) s F := by
  intro K β a w Q hs hq
  have hy : yielded ops a.tmps j = some b := yielded_of ht (by rw [hs.size]; simpa [Nat.blt_eq] using hlt) (hb ▸ hs.rd t)
  refine listW_step fun Kc hK => ?_
  have hw : Region.wanted o (yielded ops a.tmps) = (b == want) := by
    simp only [Region.wanted, hg, hy]
    cases b <;> cases want <;> rfl
  rw [hw]
  cases hbw : (b == want) with
  | true =>
    simp only [if_true]
    have hbw' : b = want := by simpa using hbw
    refine (h hbw').go K β a w Kc Q hs.ws (fun x _ => hs.ev x) (fun x _ => hs.evok x) (fun K' β' v w' d H' hR hx hw hv ho => hK _ _ ?_) fun K' β' v w' d H' hR hx hw hv ho => ?_
    · exact hr hbw' d H' hR K' β' _ w' Q (hs.put hx.kx.le hx.ag hw hx.le hv ho hf) fun e a' w'' hA => hq _ _ _ (hA.mono hx fun _ _ h => h)
    · exact hq _ _ _ ⟨K', β', ⟨s.env, H'⟩, .panic d, hx, hs.stay hx hw, ⟨v, rfl, hv, ho⟩, hp hbw' d H' hR⟩
  | false =>
    simp only [Bool.false_eq_true, if_false]
    have hbw' : b ≠ want := by simpa using hbw
    exact hK _ _ (hn hbw' K β _ w Q (hs.put (Mem.le.refl K) (Agr.refl _ _) hs.ws (HLe.refl _) (.v _ _) (.v _) hf) fun e a' w'' hA => hq _ _ _ hA)
end

/-- Code, from a state. -/
def WC (P : Program) (C : Ctx) (N : Nat) (c : Code) (s : St) (Q : DX → St → Prop) : Prop :=
  ∀ K β a w, SR C N K β s a w → c.wpIn (FW C.rd) 0 P (AftX C N K β s.H Q) a w
def thenQ (F : St → Prop) (Q : DX → St → Prop) : DX → St → Prop
  | .normal, s => F s
  | e, s => Q e s
def blkQ (id : Nat) (Q : DX → St → Prop) : DX → St → Prop
  | .exit id', s => if id' = id then Q .normal s else Q (.exit id') s
  | e, s => Q e s
theorem XR.thenQ {K : Mem} {β : Nat → Nat → BT} {H : Heap} {e : Exit} {x : DX} {F : St → Prop} {Q : DX → St → Prop} {s : St} (hx : XR K β H e x) (hne : e ≠ .normal) (h : thenQ F Q x s) : Q x s := by
  cases x with
  | normal => cases e <;> first | exact absurd rfl hne | exact hx.elim
  | _ => exact h
section
variable {P : Program} {C : Ctx} {N : Nat} {s : St} {Q : DX → St → Prop}
theorem WC.mono {c : Code} {Q' : DX → St → Prop} (h : WC P C N c s Q) (hq : ∀ e s, Q e s → Q' e s) : WC P C N c s Q' :=
  fun K β a w hs => wpIn_mono (h K β a w hs) fun _ _ _ hA => hA.mono (Ext.refl _ _ _ _) hq
theorem WC.skip (h : Q .normal s) : WC P C N .skip s Q := fun K β _ _ hs => wpIn_skip ⟨K, β, s, .normal, Ext.refl _ _ _ _, hs, trivial, h⟩
theorem WC.exit {id : Nat} (h : Q (.exit id) s) : WC P C N (.exit id) s Q := fun K β _ _ hs => wpIn_exit ⟨K, β, s, .exit id, Ext.refl _ _ _ _, hs, rfl, h⟩
theorem WC.ret (h : Q .ret s) : WC P C N .ret s Q := fun K β _ _ hs => wpIn_ret ⟨K, β, s, .ret, Ext.refl _ _ _ _, hs, trivial, h⟩
theorem AftX.normal {K : Mem} {β : Nat → Nat → BT} {H : Heap} {a : Act} {w : World} (h : AftX C N K β H Q .normal a w) : ∃ K' β' s', Ext C K β H K' β' s'.H ∧ SR C N K' β' s' a w ∧ Q .normal s' := by
  obtain ⟨K', β', s', x, h1, h2, h3, h4⟩ := h
  cases x <;> first | exact ⟨K', β', s', h1, h2, h4⟩ | exact h3.elim
theorem AftX.other {K : Mem} {β : Nat → Nat → BT} {H : Heap} {F : St → Prop} {e : Exit} {a : Act} {w : World} (h : AftX C N K β H (thenQ F Q) e a w) (hne : e ≠ .normal) : AftX C N K β H Q e a w := by
  obtain ⟨K', β', s', x, h1, h2, h3, h4⟩ := h
  exact ⟨K', β', s', x, h1, h2, h3, h3.thenQ hne h4⟩
theorem WC.seq {x y : Code} (h : ∀ F : St → Prop, (∀ s', WC P C N y s' Q → F s') → WC P C N x s (thenQ F Q)) : WC P C N (.seq x y) s Q := by
  intro K β a w hs
  refine wpIn_seq (wpIn_mono (h _ (fun _ h => h) K β a w hs) fun e a' w' hA => ?_)
  cases e <;> first
    | exact hA.other (by intro h; cases h)
    | (obtain ⟨K', β', s', hK, hs', hy⟩ := hA.normal
       exact wpIn_mono (hy K' β' a' w' hs') fun e _ _ hA => hA.mono hK fun _ _ h => h)
theorem WC.block {id : Nat} {c : Code} (h : WC P C N c s (blkQ id Q)) : WC P C N (.block id c) s Q := by
  intro K β a w hs
  refine wpIn_block (wpIn_mono (h K β a w hs) fun e a' w' hA => ?_)
  obtain ⟨K', β', s', x, h1, h2, h3, h4⟩ := hA
  cases e with
  | exit id' =>
    cases x with
    | exit id'' =>
      have e : id' = id'' := h3
      subst e
      show if id' = id then _ else _
      by_cases he : id' = id
      · rw [if_pos he]; exact ⟨K', β', s', .normal, h1, h2, trivial, by simpa [blkQ, he] using h4⟩
      · rw [if_neg he]; exact ⟨K', β', s', .exit id', h1, h2, rfl, by simpa [blkQ, he] using h4⟩
    | _ => exact h3.elim
  | _ => cases x <;> first | exact ⟨K', β', s', _, h1, h2, h3, h4⟩ | exact h3.elim
theorem WC.cond {c : Operand} {x y : Code} (b : Bool) (hc : ev s.env c = .v (.bool b)) (ht : b = true → WC P C N x s Q) (hf : b = false → WC P C N y s Q) : WC P C N (.cond c x y) s Q := by
  intro K β a w hs
  have hv := hs.ev c
  rw [hc] at hv
  have e : a.eval c = .bool b := hv.v_inv
  exact wpIn_cond_split e (fun h => ht h K β a w hs) (fun h => hf h K β a w hs)
theorem WC.region {id : Nat} {l : List Oper} (h : RG P C N l.toArray l s Q) : WC P C N (.region id l.toArray false) s Q :=
  fun K β a w hs => wpIn_region_lit (h K β a w _ hs fun _ _ _ hA => hA)

/-- A state whose slots among W hold nothing that is told, and whose blocks from n on are forgotten. -/
def forget (W : List Nat) (e : Nat → D) : Nat → D := fun j => bif W.elem j then .any else e j
def updL (e : Nat → D) : List (Nat × D) → (Nat → D)
  | [] => e
  | (k, d) :: l => upd (updL e l) k d
theorem okV_take {H : Heap} {n id v : Nat} (h : okV (H.take n) id v) : okV H id v ∧ id < n := by
  have h1 := h.lt
  rw [List.length_take] at h1
  unfold okV at *
  rw [List.getElem?_take, if_pos (by omega)] at h
  exact ⟨h, by omega⟩
theorem wsTake {K : Mem} {β : Nat → Nat → BT} {H : Heap} {w : World} (h : WS C K β H w) (n : Nat) (hok : ∀ (id : Nat) b, (H.take n)[id]? = some (some b) → ∀ c ∈ b.cs, OkD (H.take n) c) (hle : HLe C.hb (H.take n)) : WS C K β (H.take n) w := by
  have hs : ∀ (id : Nat) b, (H.take n)[id]? = some (some b) → H[id]? = some (some b) := by
    intro id b hb
    rw [List.getElem?_take] at hb
    split at hb
    · exact hb
    · cases hb
  exact ⟨h.holds, fun id b hb => h.blk id b (hs id b hb), hok, fun i j b b' hb hb' => h.inj i j b b' (hs i b hb) (hs j b' hb'),
    fun id b hb => h.apart id b (hs id b hb), fun id b hb => h.base id b (hs id b hb), h.size, h.below, h.agr, hle, h.kle⟩
/-- These slots hold these data. -/
def Live (env : Nat → D) (H : Heap) : List (Nat × D) → Prop
  | [] => True
  | (k, d) :: l => (env k = d ∧ OkD H d) ∧ Live env H l
theorem Live.at {env : Nat → D} {H : Heap} : ∀ {A : List (Nat × D)}, Live env H A → ∀ p ∈ A, env p.1 = p.2 ∧ OkD H p.2
  | [], _, p, hp => by cases hp
  | (k, d) :: l, h, p, hp => by
    rcases List.mem_cons.1 hp with rfl | hp
    · exact h.1
    · exact h.2.at p hp
/-- All that the blocks hold names blocks that are there. -/
def OkH (H : Heap) : List (Option Blk) → Prop
  | [] => True
  | none :: l => OkH H l
  | some b :: l => (∀ c ∈ b.cs, OkD H c) ∧ OkH H l
theorem OkH.at {H : Heap} : ∀ {l : List (Option Blk)}, OkH H l → ∀ (id : Nat) b, l[id]? = some (some b) → ∀ c ∈ b.cs, OkD H c
  | [], _, id, b, hb => by cases hb
  | none :: l, h, 0, b, hb => by cases hb
  | none :: l, h, id + 1, b, hb => OkH.at (l := l) h id b (by simpa using hb)
  | some x :: l, h, 0, b, hb => by simp at hb; subst hb; exact h.1
  | some x :: l, h, id + 1, b, hb => OkH.at (l := l) h.2 id b (by simpa using hb)
/-- s is as at a head: the slots of A hold these, those outside W what e says, the first blocks H0. 'H1': the blocks at the head's first coming. -/
structure Head (H1 : Heap) (e : Nat → D) (W : List Nat) (A : List (Nat × D)) (H0 : Heap) (s : St) : Prop where
  live : Live s.env H0 A
  rest : ∀ j, W.elem j = false → s.env j = e j
  heap : s.H.take H1.length = H0
  le : HLe H1 H0
  okH : OkH H0 H0
theorem updL_at (e : Nat → D) : ∀ (A : List (Nat × D)) (j : Nat), (∃ p ∈ A, p.1 = j ∧ updL e A j = p.2) ∨ ((∀ p ∈ A, p.1 ≠ j) ∧ updL e A j = e j)
  | [], j => .inr ⟨by simp, rfl⟩
  | (k, d) :: l, j => by
    by_cases h : j = k
    · subst h; exact .inl ⟨(j, d), by simp, rfl, upd_at _ _ _⟩
    · rcases updL_at e l j with ⟨p, hp, h1, h2⟩ | ⟨h1, h2⟩
      · exact .inl ⟨p, by simp [hp], h1, by show upd _ k d j = _; rw [upd_ne _ _ h]; exact h2⟩
      · refine .inr ⟨?_, by show upd _ k d j = _; rw [upd_ne _ _ h]; exact h2⟩
        intro p hp
        rcases List.mem_cons.1 hp with rfl | hp
        · exact Ne.symm h
        · exact h1 p hp
theorem SR.head {K : Mem} {β : Nat → Nat → BT} {a : Act} {w : World} (h : SR C N K β s a w) {H1 : Heap} {e : Nat → D} (hb : HLe C.hb H1) (he : ∀ t, OkD H1 (e t)) {W : List Nat} {A : List (Nat × D)} {H0 : Heap} (hf : Head H1 e W A H0 s) : SR C N K β ⟨updL (forget W e) A, H0⟩ a w := by
  have hh := hf.heap
  refine ⟨hh ▸ wsTake h.ws H1.length (by rw [hh]; exact hf.okH.at) (by rw [hh]; exact hb.trans hf.le), h.size, h.defers, fun t => ?_, fun t => ?_⟩
  all_goals
    simp only
    rcases updL_at (forget W e) A t with ⟨p, hp, rfl, h2⟩ | ⟨_, h2⟩
  · rw [h2, ← (hf.live.at p hp).1]; exact h.rd _
  · rw [h2]; unfold forget
    cases hw : W.elem t with
    | true => exact .any _ _
    | false => show DR K β true _ (e t); rw [← hf.rest t hw]; exact h.rd t
  · rw [h2]; exact (hf.live.at p hp).2
  · rw [h2]; unfold forget
    cases hw : W.elem t with
    | true => exact .any
    | false => exact (he t).mono hf.le
theorem Head.ext {K : Mem} {β : Nat → Nat → BT} {C : Ctx} {H1 : Heap} {e : Nat → D} {W : List Nat} {A : List (Nat × D)} {H0 : Heap} {s : St} {K' : Mem} {β' : Nat → Nat → BT} (h : Ext C K β H1 K' β' s.H) (hf : Head H1 e W A H0 s) : Ext C K β H1 K' β' H0 := ⟨h.kx, h.ag, hf.le⟩
/-- A loop: a ghost g tells what its slots hold at each round's head (A g), what the blocks hold (Hs g), and a number that falls. -/
theorem WC.loop {c : Code} {G : Type} (W : List Nat) (A : G → List (Nat × D)) (Hs : G → Heap) (I : G → Prop) (m : G → Nat) (g0 : G) (hI : I g0) (h0 : Head s.H s.env W (A g0) (Hs g0) s)
    (round : ∀ g, I g → WC P C N c ⟨updL (forget W s.env) (A g), Hs g⟩ (thenQ (fun s' => ∃ g', I g' ∧ m g' < m g ∧ Head s.H s.env W (A g') (Hs g') s') Q)) : WC P C N (.loop c) s Q := by
  intro K β a w hs
  refine wpIn_loop_ghost (fun k a w => ∃ g K' β', m g = k ∧ Ext C K β s.H K' β' (Hs g) ∧ I g ∧ SR C N K' β' ⟨updL (forget W s.env) (A g), Hs g⟩ a w) (m g0) ⟨g0, K, β, rfl, Head.ext (Ext.refl _ _ _ _) h0, hI, hs.head hs.ws.hle hs.ok h0⟩ ?_
  rintro k a w ⟨g, K', β', rfl, hK, hg, hr⟩
  refine wpIn_mono (round g hg K' β' a w hr) fun e' a' w' hA => ?_
  cases e' with
  | normal =>
    obtain ⟨K'', β'', s', hK', hs', g', hI', hlt, hf⟩ := hA.normal
    exact ⟨m g', hlt, g', K'', β'', rfl, Head.ext (hK.trans hK') hf, hI', hs'.head hs.ws.hle hs.ok hf⟩
  | _ => exact (hA.other (by intro h; cases h)).mono hK fun _ _ h => h
/-- Where ways meet: what the slots and the blocks hold behind x, by a ghost. -/
theorem WC.join {x y : Code} {G : Type} (W : List Nat) (A : G → List (Nat × D)) (Hs : G → Heap) (I : G → Prop) (hx : WC P C N x s (thenQ (fun s' => ∃ g, I g ∧ Head s.H s.env W (A g) (Hs g) s') Q))
    (hy : ∀ g, I g → WC P C N y ⟨updL (forget W s.env) (A g), Hs g⟩ Q) : WC P C N (.seq x y) s Q := by
  intro K β a w hs
  refine wpIn_seq (wpIn_mono (hx K β a w hs) fun e a' w' hA => ?_)
  cases e <;> first
    | exact hA.other (by intro h; cases h)
    | (obtain ⟨K', β', s', hK, hs', g, hg, hf⟩ := hA.normal
       exact wpIn_mono (hy g hg K' β' a' w' (hs'.head hs.ws.hle hs.ok hf)) fun e _ _ hA => hA.mono (Head.ext hK hf) fun _ _ h => h)
theorem same_refl (W : List Nat) (e : Nat → D) : ∀ j, W.elem j = false → e j = e j := fun _ _ => rfl
theorem same_upd {W : List Nat} {e env : Nat → D} {k : Nat} {d : D} (hk : W.elem k = true) (h : ∀ j, W.elem j = false → env j = e j) : ∀ j, W.elem j = false → upd env k d j = e j := fun j hj => by
  rw [upd_ne _ _ (fun he => by rw [he, hk] at hj; cases hj)]; exact h j hj
theorem same_updO {W : List Nat} {e env : Nat → D} {k : Nat} {d : D} (hk : W.elem k = true) (h : ∀ j, W.elem j = false → env j = e j) : ∀ j, W.elem j = false → updO env (some k) d j = e j := same_upd hk h
theorem same_updN {W : List Nat} {e env : Nat → D} {d : D} (h : ∀ j, W.elem j = false → env j = e j) : ∀ j, W.elem j = false → updO env none d j = e j := h
theorem same_forget {W W' : List Nat} {e env : Nat → D} (hw : (W'.all fun k => W.elem k) = true) (h : ∀ j, W.elem j = false → env j = e j) : ∀ j, W.elem j = false → forget W' env j = e j := fun j hj => by
  unfold forget
  cases hb : W'.elem j with
  | true =>
    have := List.all_eq_true.1 hw j (List.elem_iff.1 hb)
    rw [hj] at this; cases this
  | false => exact h j hj
theorem same_updL {W : List Nat} {e env : Nat → D} : ∀ {A : List (Nat × D)}, (A.all fun p => W.elem p.1) = true → (∀ j, W.elem j = false → env j = e j) → ∀ j, W.elem j = false → updL env A j = e j
  | [], _, h => h
  | (k, d) :: l, hk, h => by
    simp only [List.all_cons, Bool.and_eq_true] at hk
    exact same_upd hk.1 (same_updL hk.2 h)
end

/-- What a block of the call's own reads as, when nobody changes it any more. -/
inductive Frz (H : Heap) : D → D → Prop
  | any : Frz H .any .any
  | v (x) : Frz H (.v x) (.v x)
  | rd (n cs) : Frz H (.rd n cs) (.rd n cs)
  | adr (cs) : Frz H (.adr cs) (.adr cs)
  | agg (cs ds : List D) (hl : cs.length = ds.length) (h : ∀ (j : Nat) c d, cs[j]? = some c → ds[j]? = some d → Frz H c d) : Frz H (.agg cs) (.agg ds)
  | tup (cs ds : List D) (hl : cs.length = ds.length) (h : ∀ (j : Nat) c d, cs[j]? = some c → ds[j]? = some d → Frz H c d) : Frz H (.tup cs) (.tup ds)
  | fn (f : Fn) (cs ds : List D) (hl : cs.length = ds.length) (h : ∀ (j : Nat) c d, cs[j]? = some c → ds[j]? = some d → Frz H c d) : Frz H (.fn f cs) (.fn f ds)
  | own (id off n sz : Nat) (b : Blk) (ds : List D) (hb : H[id]? = some (some b)) (hl : off + ds.length ≤ b.cs.length) (h : ∀ (j : Nat) c d, b.cs[off + j]? = some c → ds[j]? = some d → Frz H c d) : Frz H (.own id b.ver off n sz) (.rd n ds)
  | ptr (id off : Nat) (b : Blk) (ds : List D) (hb : H[id]? = some (some b)) (hl : off + ds.length ≤ b.cs.length) (h : ∀ (j : Nat) c d, b.cs[off + j]? = some c → ds[j]? = some d → Frz H c d) : Frz H (.ptr id b.ver off) (.adr ds)
  | iface (t : TypeId) (c d : D) (h : Frz H c d) : Frz H (.iface t c) (.iface t d)
  | mp (ks cs) : Frz H (.mp ks cs) (.mp ks cs)
  | omp (id : Nat) (b : Blk) (ks : List Value) (ds : List D) (hb : H[id]? = some (some b)) (hl : b.cs.length = ds.length) (hkl : ks.length = ds.length)
      (hk : ∀ (j : Nat) c, b.cs[j]? = some c → ∃ k dv, c = .tup [.v k, dv] ∧ ks[j]? = some k) (h : ∀ (j : Nat) k c d, b.cs[j]? = some (.tup [.v k, c]) → ds[j]? = some d → Frz H c d) : Frz H (.omp id b.ver) (.mp ks ds)
  | drop (d : D) : Frz H d .any
  | nilv : Frz H (.v (.slice none 0 0)) (.rd 0 [])

/-- All that the call owns, with what stays. -/
noncomputable def Mem.all (K : Mem) (β : Nat → Nat → BT) (H : Heap) (w : World) : Mem := fun b =>
  open Classical in if (∃ (id : Nat) (x : Blk), H[id]? = some (some x) ∧ (β id x.ver).real = true ∧ (β id x.ver).blk = b) then w.heap[b]? else K b
section
variable {C : Ctx} {K : Mem} {β : Nat → Nat → BT} {H : Heap} {w : World}
theorem WS.all_old (h : WS C K β H w) {b : Nat} {c : Obj} (hb : K b = some c) : K.all β H w b = some c := by
  unfold Mem.all
  rw [if_neg ?_]
  · exact hb
  · rintro ⟨id, x, hx, hr, rfl⟩
    rw [h.apart id x hx hr] at hb; cases hb
theorem WS.all_new (h : WS C K β H w) {id : Nat} {x : Blk} (hx : H[id]? = some (some x)) (hr : (β id x.ver).st = .cells) : ∃ us rest : List Value, K.all β H w (β id x.ver).blk = some (.cells (us ++ rest).toArray x.e (0, 0)) ∧ us.length = x.cs.length ∧ ∀ (j : Nat) u d, us[j]? = some u → x.cs[j]? = some d → DR K β true u d := by
  obtain ⟨us, rest, e, hl, _, _, hd⟩ := h.real hx hr
  refine ⟨us, rest, ?_, hl, hd⟩
  unfold Mem.all
  rw [if_pos ⟨id, x, hx, BT.real_of hr, rfl⟩, e]
theorem WS.all_newm (h : WS C K β H w) {id : Nat} {x : Blk} (hx : H[id]? = some (some x)) (hr : (β id x.ver).st = .map) : ∃ es ck, K.all β H w (β id x.ver).blk = some (.map es ck) ∧ EntR K β es ck x.cs := by
  obtain ⟨es, ck, e, hE⟩ := h.mapd hx hr
  refine ⟨es, ck, ?_, hE⟩
  unfold Mem.all
  rw [if_pos ⟨id, x, hx, BT.real_ofm hr, rfl⟩, e]
theorem WS.all_kx (h : WS C K β H w) : KX C K (K.all β H w) := by
  refine ⟨fun b c hb => h.all_old hb, fun b c hb => ?_⟩
  unfold Mem.all at hb
  split at hb
  · rename_i hx; obtain ⟨id, x, hx, hr, rfl⟩ := hx; exact .inr (h.base id x hx hr)
  · exact .inl hb
theorem WS.all_holds (h : WS C K β H w) : ∀ b c, K.all β H w b = some c → w.heap[b]? = some c := by
  intro b c hb
  unfold Mem.all at hb
  split at hb
  · exact hb
  · exact h.holds b c hb
theorem WS.frz (h : WS C K β H w) {d d' : D} (hf : Frz H d d') : ∀ v, DR K β true v d → DR (K.all β H w) β false v d' := by
  have hle : Mem.le K (K.all β H w) := h.all_kx.le
  induction hf with
  | any => intro v _; exact .any _ _
  | drop => intro v _; exact .any _ _
  | nilv => intro v hv; rw [hv.v_inv]; exact .rd _ none 0 0 [] [] (Nat.le_refl _) rfl (by simp) (by simp)
  | v x => intro v hv; cases hv; exact .v _ _
  | rd n cs =>
    intro v hv
    cases hv with
    | rd _ A _ c us _ hn hl hc hd => exact .rd _ A n c us cs hn hl (fun j u hu => let ⟨ad, e, hk⟩ := hc j u hu; ⟨ad, e, hle.cell hk⟩) fun j u d hu hd' => (hd j u d hu hd').mono (H := []) hle (by intro h; cases h) (Agr.refl _ _)
  | adr cs =>
    intro v hv
    cases hv with
    | adr _ ad us _ hl hc hd => exact .adr _ ad us cs hl (fun j u hu => hle.cell (hc j u hu)) fun j u d hu hd' => (hd j u d hu hd').mono (H := []) hle (by intro h; cases h) (Agr.refl _ _)
  | iface t c d _ ih =>
    intro v hv
    obtain ⟨u, rfl, hu⟩ := hv.iface_inv
    exact .iface _ t u d (ih u hu)
  | mp ks cs =>
    intro v hv
    cases hv with
    | mp _ r es ck _ _ hk hl hc hd => exact .mp _ r es ck ks cs (hle _ _ hk) hl hc fun j u d hu hd' => (hd j u d hu hd').mono (H := []) hle (by intro h; cases h) (Agr.refl _ _)
  | omp id b ks ds hb hl hkl hks _ ih =>
    intro v hv
    obtain ⟨rfl, hr⟩ := hv.omp_inv
    obtain ⟨es, ck, hk, hE⟩ := h.all_newm hb hr
    have hes := hE.len
    refine .mp _ _ es ck ks ds hk ?_ (by omega) fun j u d hu hd' => ?_
    · apply List.ext_getElem?
      intro j
      rw [List.getElem?_map]
      by_cases hj : j < es.size
      · have hu : es[j]? = some es[j] := Array.getElem?_eq_getElem hj
        have hc : b.cs[j]? = some (b.cs[j]'(by omega)) := List.getElem?_eq_getElem (by omega)
        obtain ⟨k, dv, e1, e2⟩ := hks j _ hc
        obtain ⟨dv', e3, _⟩ := hE.rd j _ _ hu hc
        rw [e1] at e3
        injection e3 with e4
        injection e4 with e5 _
        injection e5 with e6
        rw [Array.getElem?_toList, hu, e2, e6]; rfl
      · rw [Array.getElem?_toList, Array.getElem?_eq_none (by omega), List.getElem?_eq_none (by omega)]; rfl
    · have hj : j < es.size := (Array.getElem?_eq_some_iff.1 hu).1
      have hc : b.cs[j]? = some (b.cs[j]'(by omega)) := List.getElem?_eq_getElem (by omega)
      obtain ⟨dv', e3, hdv⟩ := hE.rd j _ _ hu hc
      exact ih j u.key dv' d (by rw [hc, e3]) hd' _ hdv
  | agg cs ds hl _ ih =>
    intro v hv
    cases hv with
    | agg _ us _ hl' hd =>
      refine .agg _ us ds (hl'.trans hl) fun j u d hu hd' => ?_
      have hj : j < cs.length := by rw [hl]; exact (List.getElem?_eq_some_iff.1 hd').1
      exact ih j cs[j] d (List.getElem?_eq_getElem hj) hd' u (hd j u _ hu (List.getElem?_eq_getElem hj))
  | tup cs ds hl _ ih =>
    intro v hv
    cases hv with
    | tup _ us _ hl' hd =>
      refine .tup _ us ds (hl'.trans hl) fun j u d hu hd' => ?_
      have hj : j < cs.length := by rw [hl]; exact (List.getElem?_eq_some_iff.1 hd').1
      exact ih j cs[j] d (List.getElem?_eq_getElem hj) hd' u (hd j u _ hu (List.getElem?_eq_getElem hj))
  | fn f cs ds hl _ ih =>
    intro v hv
    cases hv with
    | fn _ _ us _ hl' hd =>
      refine .fn _ f us ds (hl'.trans hl) fun j u d hu hd' => ?_
      have hj : j < cs.length := by rw [hl]; exact (List.getElem?_eq_some_iff.1 hd').1
      exact ih j cs[j] d (List.getElem?_eq_getElem hj) hd' u (hd j u _ hu (List.getElem?_eq_getElem hj))
  | own id off n sz b ds hb hl _ ih =>
    intro v hv
    rcases hv.own_inv with ⟨c, rfl, hn, _, _, hr⟩ | ⟨rfl, rfl, rfl, hr⟩
    · obtain ⟨us, rest, hk, hul, hd⟩ := h.all_new hb hr
      refine .rd _ _ n c ((us.drop off).take ds.length) ds hn (by simp; omega) (fun j u hu => ⟨_, rfl, ?_⟩) fun j u d hu hd' => ?_
      · rw [List.getElem?_take] at hu
        split at hu
        · rw [List.getElem?_drop] at hu
          have e : (⟨(β id b.ver).blk, off, none⟩ : Addr).add j = ⟨(β id b.ver).blk, off + j, none⟩ := by unfold Addr.add; split <;> simp_all
          rw [e]; simp only [Mem.cell, hk]
          simp only [Option.isSome_none, Bool.false_eq_true, if_false, List.getElem?_toArray]
          rw [List.getElem?_append_left (List.getElem?_eq_some_iff.1 hu).1]; exact hu
        · cases hu
      · rw [List.getElem?_take] at hu
        split at hu
        · rw [List.getElem?_drop] at hu
          have hj : off + j < b.cs.length := by have := (List.getElem?_eq_some_iff.1 hu).1; omega
          exact ih j b.cs[off + j] d (List.getElem?_eq_getElem hj) hd' u (hd _ u _ hu (List.getElem?_eq_getElem hj))
        · cases hu
    · have h0 := h.nil hb hr
      rw [h0] at hl
      have : ds = [] := List.eq_nil_of_length_eq_zero (by simpa using hl)
      subst this
      exact .rd _ none 0 0 [] [] (Nat.le_refl _) rfl (by simp) (by simp)
  | ptr id off b ds hb hl _ ih =>
    intro v hv
    obtain ⟨rfl, hr⟩ := hv.ptr_inv
    obtain ⟨us, rest, hk, hul, hd⟩ := h.all_new hb hr
    refine .adr _ _ ((us.drop off).take ds.length) ds (by simp; omega) (fun j u hu => ?_) fun j u d hu hd' => ?_
    · rw [List.getElem?_take] at hu
      split at hu
      · rw [List.getElem?_drop] at hu
        have e : (⟨(β id b.ver).blk, off, none⟩ : Addr).add j = ⟨(β id b.ver).blk, off + j, none⟩ := by unfold Addr.add; split <;> simp_all
        rw [e]; simp only [Mem.cell, hk]
        simp only [Option.isSome_none, Bool.false_eq_true, if_false, List.getElem?_toArray]
        rw [List.getElem?_append_left (List.getElem?_eq_some_iff.1 hu).1]; exact hu
      · cases hu
    · rw [List.getElem?_take] at hu
      split at hu
      · rw [List.getElem?_drop] at hu
        have hj : off + j < b.cs.length := by have := (List.getElem?_eq_some_iff.1 hu).1; omega
        exact ih j b.cs[off + j] d (List.getElem?_eq_getElem hj) hd' u (hd _ u _ hu (List.getElem?_eq_getElem hj))
      · cases hu
end

/-- A table of blocks where there are none. -/
def β0 : Nat → Nat → BT := fun _ _ => ⟨0, 0, .none⟩
/-- A function of data: called with what reads so, it returns what Q says; what was there is as it was. -/
def Fun (P : Program) (f : FuncId) (ds : List D) (Q : D → Prop) : Prop :=
  ∀ (K : Mem) (w : World) (vs : List Value), vs.length = ds.length → (∀ (j : Nat) v d, vs[j]? = some v → ds[j]? = some d → DR K β0 false v d) → (∀ b c, K b = some c → w.heap[b]? = some c) →
    Calls P f vs.toArray w fun e w' => ∃ v d K', e = .returned v ∧ Q d ∧ KX (bare w) K K' ∧ (∀ b c, K' b = some c → w'.heap[b]? = some c) ∧ DR K' β0 false v d ∧ Below w.heap.size w w'
/-- Where the blocks lie that a call is given. -/
def gives (β : Nat → Nat → BT) (H : Heap) : Nat → Prop := fun k => ∃ (id : Nat) (b : Blk), H[id]? = some (some b) ∧ (β id b.ver).real = true ∧ (β id b.ver).blk = k
def given (K : Mem) (β : Nat → Nat → BT) (H : Heap) (w : World) : Ctx := ⟨w.heap.size, w, gives β H, none, H, β, K⟩
/-- A call that is given blocks of the caller's own: it may change them. -/
def FunM (P : Program) (f : FuncId) (ds : List D) (H : Heap) (Q : DOut → Heap → Prop) : Prop :=
  ∀ (K : Mem) (β : Nat → Nat → BT) (w : World) (vs : List Value), WS (given K β H w) K β H w → vs.length = ds.length → (∀ (j : Nat) v d, vs[j]? = some v → ds[j]? = some d → DR K β true v d) → (∀ d ∈ ds, OkD H d) →
    Calls P f vs.toArray w fun e w' => ∃ v d K' β' H', Ext (given K β H w) K β H K' β' H' ∧ WS (given K β H w) K' β' H' w' ∧ DR K' β' true v d ∧ OkD H' d ∧ ((e = .returned v ∧ Q (.ret d) H') ∨ (e = .panicked [{ v, recovered := false }] ∧ Q (.pan d) H'))
theorem Bel.start (C : Ctx) : Bel C C.W := ⟨rfl, rfl, rfl, Nat.le_refl _, fun _ _ _ => rfl⟩
theorem WS.give {C : Ctx} {K : Mem} {β : Nat → Nat → BT} {H : Heap} {w : World} (h : WS C K β H w) : WS (given K β H w) K β H w :=
  ⟨h.holds, h.blk, h.ok, h.inj, h.apart, fun id b hb hr => .inr ⟨id, b, hb, hr, rfl⟩, Nat.le_refl _, Bel.start _, Agr.refl _ _, HLe.refl _, Mem.le.refl _⟩
theorem WS.owns_of {C : Ctx} {K : Mem} {β : Nat → Nat → BT} {H : Heap} {w : World} (h : WS C K β H w) (k : Nat) (hk : (given K β H w).owns k) : C.owns k := by
  rcases hk with h1 | ⟨id, b, hb, hr, rfl⟩
  · exact .inl (Nat.le_trans h.size h1)
  · exact h.base id b hb hr
theorem WS.back {C : Ctx} {K K' : Mem} {β β' : Nat → Nat → BT} {H H' : Heap} {w w' : World} (h : WS C K β H w) (h' : WS (given K β H w) K' β' H' w') : WS C K' β' H' w' :=
  ⟨h'.holds, h'.blk, h'.ok, h'.inj, h'.apart, fun id b hb hr => h.owns_of _ (h'.base id b hb hr), Nat.le_trans h.size h'.size, ⟨h'.below.os.trans h.below.os, h'.below.tape.trans h.below.tape, h'.below.output.trans h.below.output, Nat.le_trans h.below.size h'.below.size, fun k hk hg =>
    (h'.below.block k (Nat.lt_of_lt_of_le hk h.size) fun ⟨id, b, hb, hr, e⟩ => by
      rcases h.base id b hb hr with h1 | h1
      · rw [e] at h1; omega
      · rw [e] at h1; exact hg h1).trans (h.below.block k hk hg)⟩, h.agr.up h.hle h'.agr, h.hle.trans h'.hle, h.kle.trans h'.kle⟩
theorem Ext.up {C : Ctx} {K K' : Mem} {β β' : Nat → Nat → BT} {H H' : Heap} {w : World} (h : WS C K β H w) (he : Ext (given K β H w) K β H K' β' H') : Ext C K β H K' β' H' := ⟨he.kx.mono h.owns_of, he.ag, he.le⟩
/-- The slots at a function's beginning. -/
def env0 (ds : List D) : Nat → D := fun k => (ds[k]?).getD (.v undef)
/-- What a function's end hands back. -/
def Ends (P : Program) (fn : Func) (Q : D → Prop) (s : St) : Prop :=
  ∀ (C : Ctx) (N : Nat) K β a w, SR C N K β s a w → ∃ v d d', (results fn a.tmps).run P w = .ok v w ∧ DR K β true v d ∧ Frz s.H d d' ∧ Q d'
def endQ (P : Program) (fn : Func) (Q : D → Prop) : DX → St → Prop
  | .normal, s | .ret, s => Ends P fn Q s
  | _, _ => False
/-- The same of a call that has all: n blocks are left. -/
def EndsM (P : Program) (fn : Func) (Q : D → Prop) (H : Heap) (s : St) : Prop :=
  ∀ (C : Ctx) (N : Nat) K β a w, SR C N K β s a w → ∃ v d, (results fn a.tmps).run P w = .ok v w ∧ DR K β true v d ∧ OkD H d ∧ Q d
/-- So many blocks are kept: they lean on no other ones. -/
structure Kept (H0 : Heap) (n : Nat) (s : St) (H' : Heap) : Prop where
  eq : s.H.take n = H'
  le : H0.length ≤ n
  ok : OkH H' H'
def endM (P : Program) (fn : Func) (H0 : Heap) (Q : DOut → Heap → Prop) : DX → St → Prop
  | .normal, s | .ret, s => ∃ n H', Kept H0 n s H' ∧ EndsM P fn (fun d => Q (.ret d) H') H' s
  | .panic d, s => ∃ n H', Kept H0 n s H' ∧ OkD H' d ∧ Q (.pan d) H'
  | _, _ => False
theorem HLe.take {H H' : Heap} (h : HLe H H') {n : Nat} (hn : H.length ≤ n) : HLe H (H'.take n) := fun i v hv => by
  have h1 := hv.lt
  have h2 := h i v hv
  unfold okV at h2 ⊢
  rw [List.getElem?_take, if_pos (by omega)]
  exact h2
theorem enters {fn : Func} {ds : List D} {C : Ctx} {K : Mem} {β : Nat → Nat → BT} {H : Heap} {w : World} {vs : List Value} (hn : ds.length ≤ fn.ntmps) (hw : WS C K β H w) (hl : vs.length = ds.length)
    (hv : ∀ (j : Nat) v d, vs[j]? = some v → ds[j]? = some d → DR K β true v d) (ho : ∀ d ∈ ds, OkD H d) : SR C fn.ntmps K β ⟨env0 ds, H⟩ { tmps := vs.toArray ++ Array.replicate (fn.ntmps - vs.toArray.size) undef, defers := [] } w := by
  refine ⟨hw, by simp; omega, trivial, fun t => ?_, fun t => ?_⟩
  · show DR K β true ((vs.toArray ++ Array.replicate (fn.ntmps - vs.toArray.size) undef).getD t undef) (env0 ds t)
    unfold env0
    by_cases ht : t < ds.length
    · rw [List.getElem?_eq_getElem ht]
      have hvt : vs[t]? = some (vs[t]'(by omega)) := List.getElem?_eq_getElem (by omega)
      have e : (vs.toArray ++ Array.replicate (fn.ntmps - vs.toArray.size) undef).getD t undef = vs[t]'(by omega) := by
        rw [Array.getD_eq_getD_getElem?, Array.getElem?_append_left (by simp; omega)]
        simp [hvt]
      rw [e]
      exact hv t _ _ hvt (List.getElem?_eq_getElem ht)
    · rw [List.getElem?_eq_none (by omega)]
      have e : (vs.toArray ++ Array.replicate (fn.ntmps - vs.toArray.size) undef).getD t undef = undef := by
        rw [Array.getD_eq_getD_getElem?, Array.getElem?_append_right (by simp; omega)]
        by_cases h2 : t - vs.toArray.size < fn.ntmps - vs.toArray.size
        · rw [Array.getElem?_replicate, if_pos h2]; rfl
        · rw [Array.getElem?_replicate, if_neg h2]; rfl
      rw [e]; exact .v _ _
  · show OkD H (env0 ds t)
    unfold env0
    by_cases ht : t < ds.length
    · rw [List.getElem?_eq_getElem ht]; exact ho _ (List.getElem_mem ht)
    · rw [List.getElem?_eq_none (by omega)]; exact .v _
theorem WS.start (K : Mem) (w : World) (hK : ∀ b c, K b = some c → w.heap[b]? = some c) : WS (bare w) K β0 [] w := ⟨hK, by simp, by simp, by simp, by simp, by simp, Nat.le_refl _, Bel.start _, Agr.refl _ _, HLe.refl _, fun _ _ h => by cases h⟩
theorem Bel.bare {w w' : World} (h : Bel (bare w) w') : Below w.heap.size w w' := ⟨h.os, h.tape, h.output, h.size, fun k hk => h.block k hk fun h => h⟩
/-- Marks let go, one by one: what a call's end may lean on. -/
theorem SR.unmark {C : Ctx} {N : Nat} {β : Nat → Nat → BT} {s : St} {P : Program} {w0 : World} {H : Heap} {β1 : Nat → Nat → BT} {K : Mem} (hKB : ∀ b c, K b = some c → b < C.B) (hkb : ∀ b c, C.kb b = some c → b < C.B) : ∀ (ds : List Deferred) (K' : Mem) (tmps : Array Value) (w : World), Ext C K β1 H K' β s.H → SR C N K' β s ⟨tmps, ds⟩ w →
    ∃ K'' w'', Ext C K β1 H K'' β s.H ∧ SR C N K'' β s ⟨tmps, []⟩ w'' ∧ (∀ m v d, DR K' β m v d → DR K'' β m v d) ∧ ∀ (fn : Func) (R : Ending → World → Prop) (u : FrameMode), u ≠ .run → LeavesInM (FW none) 0 P fn tmps R [] u w'' → LeavesInM (FW none) 0 P fn tmps R ds u w
  | [], K', tmps, w, hx, hs => ⟨K', w, hx, hs, fun _ _ _ h => h, fun _ _ _ _ h => h⟩
  | d :: ds, K', tmps, w, hx, hs => by
    obtain ⟨⟨r, h1, h2, h3, h4⟩, h5⟩ := hs.defers
    have hd : ∀ m v d, DR K' β m v d → DR (K'.del r) β m v d := fun m v d h => h.drop h2 (inert_def _)
    have hs' : SR C N (K'.del r) β s ⟨tmps, ds⟩ (w.putObj r (.deferred none)) := ⟨hs.ws.drop h2 (inert_def _) h3 (by cases e : C.kb r with | none => rfl | some c => have := hkb r c e; omega) _, hs.size, h5.del h4, fun t => hd _ _ _ (hs.rd t), hs.ok⟩
    have hx' : Ext C K β1 H (K'.del r) β s.H := ⟨⟨fun b c hb => by
        unfold Mem.del
        rw [if_neg (fun e => by have := hKB b c hb; omega)]; exact hx.kx.le b c hb, fun b c hb => by
        unfold Mem.del at hb
        by_cases e : b = r
        · rw [if_pos e] at hb; cases hb
        · rw [if_neg e] at hb; exact hx.kx.new b c hb⟩, hx.ag, hx.le⟩
    obtain ⟨K'', w'', k1, k2, k3, k4⟩ := SR.unmark (P := P) (w0 := w0) hKB hkb ds (K'.del r) tmps _ hx' hs'
    exact ⟨K'', w'', k1, k2, fun m v d h => k3 m v d (hd m v d h), fun fn R u hu h => ⟨hu, .inl ⟨r, _, h1, run_takeDeferred (hs.ws.holds r _ h2), k4 fn R u hu h⟩⟩⟩
/-- A call from its body's walk: marks may lie among its deferred calls. -/
theorem calls_fin {P : Program} {f : FuncId} {fn : Func} {c : Code} {args : Array Value} {w : World} {R : Ending → World → Prop} {C : Ctx} {K : Mem} {β : Nat → Nat → BT} {H : Heap} {N : Nat} {Q : DX → St → Prop} (hf : P.funcs[f]? = some fn) (hb : fn.body = some c) (hrd : C.rd = none) (hKB : ∀ b c, K b = some c → b < C.B) (hkb : ∀ b c, C.kb b = some c → b < C.B)
    (h : c.wpIn (FW C.rd) 0 P (AftX C N K β H Q) { tmps := args ++ Array.replicate (fn.ntmps - args.size) undef, defers := [] } w)
    (hfin : ∀ e (a' : Act) w' K' β' s' x, Ext C K β H K' β' s'.H → SR C N K' β' s' a' w' → a'.defers = [] → XR K' β' s'.H e x → Q x s' → bodyPost P fn R e a' w') : Calls P f args w R := by
  have hc : CallsIn (FW none) 0 P f args w R := by
    refine callsIn_of_wp_marks hf hb trivial ?_
    rw [hrd] at h
    refine wpIn_mono h fun e a' w' hA => ?_
    obtain ⟨K', β', s', x, hX, hs', hx, hq⟩ := hA
    obtain ⟨tmps, ds⟩ := a'
    obtain ⟨K'', w'', k1, k2, k3, k4⟩ := SR.unmark (P := P) (w0 := w) hKB hkb ds K' tmps w' hX hs'
    have hx' : XR K'' β' s'.H e x := by
      cases e <;> cases x <;> first
        | exact hx
        | (obtain ⟨v, e1, e2, e3⟩ := hx; exact ⟨v, e1, k3 _ _ _ e2, e3⟩)
    have hp := hfin e ⟨tmps, []⟩ w'' K'' β' s' x k1 k2 rfl hx' hq
    cases e with
    | normal => exact k4 fn R .returning (by simp) hp.2
    | ret => exact k4 fn R .returning (by simp) hp.2
    | panic ch => exact k4 fn R (.panicking ch) (by simp) hp.2
    | exit id => exact hp
    | goto l => exact hp
    | outgrown => cases x <;> exact hx.elim
  exact callsIn_wide.1 hc
theorem WS.kB {C : Ctx} {K : Mem} {β : Nat → Nat → BT} {H : Heap} {w : World} (h : WS C K β H w) (hB : C.B = w.heap.size) : ∀ b c, K b = some c → b < C.B := fun b c hb => by rw [hB]; exact h.klt hb
theorem Fun.ofR {P : Program} {f : FuncId} {fn : Func} {c : Code} {ds : List D} {Q : D → Prop} (hf : P.funcs[f]? = some fn) (hb : fn.body = some c) (hn : ds.length ≤ fn.ntmps)
    (h : ∀ C, C.rd = none → WC P C fn.ntmps c ⟨env0 ds, []⟩ (endQ P fn Q)) : Fun P f ds Q := by
  intro K w vs hl hv hK
  have hok : ∀ d ∈ ds, OkD [] d := fun d hd => by
    obtain ⟨j, hj, rfl⟩ := List.getElem_of_mem hd
    have hvt : vs[j]? = some (vs[j]'(by omega)) := List.getElem?_eq_getElem (by omega)
    exact (hv j _ _ hvt (List.getElem?_eq_getElem hj)).okp rfl
  refine calls_fin hf hb rfl ((WS.start K w hK).kB rfl) (fun _ _ h => by cases h) (h (bare w) rfl K β0 _ w (enters hn (WS.start K w hK) hl (fun j v d h1 h2 => (hv j v d h1 h2).up rfl) hok)) fun e a' w' K' β' s' x hK' hs' hdf hx hq => ?_
  have fin : Ends P fn Q s' → a'.defers = [] ∧ ∃ v, (results fn a'.tmps).run P w' = .ok v w' ∧ ∃ v' d K', Ending.returned v = .returned v' ∧ Q d ∧ KX (bare w) K K' ∧ (∀ b c, K' b = some c → w'.heap[b]? = some c) ∧ DR K' β0 false v' d ∧ Below w.heap.size w w' := by
    intro hE
    obtain ⟨v, d, d', hr, hd, hz, hQ⟩ := hE _ _ K' β' a' w' hs'
    exact ⟨hdf, v, hr, v, d', _, rfl, hQ, hK'.kx.trans hs'.ws.all_kx, hs'.ws.all_holds, (hs'.ws.frz hz v hd).pure rfl, hs'.ws.below.bare⟩
  cases e <;> cases x <;> first
    | exact fin hq
    | exact hx.elim
    | exact hq.elim
theorem Fun.of {P : Program} {f : FuncId} {fn : Func} {c : Code} {ds : List D} {Q : D → Prop} (hf : P.funcs[f]? = some fn) (hb : fn.body = some c) (hn : ds.length ≤ fn.ntmps)
    (h : ∀ C, WC P C fn.ntmps c ⟨env0 ds, []⟩ (endQ P fn Q)) : Fun P f ds Q := Fun.ofR hf hb hn fun C _ => h C
theorem FunM.ofR {P : Program} {f : FuncId} {fn : Func} {c : Code} {ds : List D} {H : Heap} {Q : DOut → Heap → Prop} (hf : P.funcs[f]? = some fn) (hb : fn.body = some c) (hn : ds.length ≤ fn.ntmps)
    (h : ∀ C, C.rd = none → WC P C fn.ntmps c ⟨env0 ds, H⟩ (endM P fn H Q)) : FunM P f ds H Q := by
  intro K β w vs hw hl hv ho
  refine calls_fin hf hb rfl (hw.kB rfl) (hw.kB rfl) (h (given K β H w) rfl K β _ w (enters hn hw hl hv ho)) fun e a' w' K' β' s' x hX hs' hdf hx hq => ?_
  have kept : ∀ {n : Nat} {H' : Heap}, Kept H n s' H' → Ext (given K β H w) K β H K' β' H' ∧ WS (given K β H w) K' β' H' w' := fun {n H'} hk => by
    obtain ⟨he, hn', hok⟩ := hk
    exact ⟨⟨hX.kx, hX.ag, he ▸ hX.le.take hn'⟩, he ▸ wsTake hs'.ws n (by rw [he]; exact hok.at) (hs'.ws.hle.take hn')⟩
  have fin : (∃ n H', Kept H n s' H' ∧ EndsM P fn (fun d => Q (.ret d) H') H' s') → a'.defers = [] ∧ ∃ v, (results fn a'.tmps).run P w' = .ok v w' ∧ ∃ v' d K' β' H', Ext (given K β H w) K β H K' β' H' ∧ WS (given K β H w) K' β' H' w' ∧ DR K' β' true v' d ∧ OkD H' d ∧ ((Ending.returned v = .returned v' ∧ Q (.ret d) H') ∨ (Ending.returned v = .panicked [{ v := v', recovered := false }] ∧ Q (.pan d) H')) := by
    rintro ⟨n, H', hk, hE⟩
    obtain ⟨v, d, hr, hd, hz, hQ⟩ := hE _ _ K' β' a' w' hs'
    obtain ⟨k1, k2⟩ := kept hk
    exact ⟨hdf, v, hr, v, d, K', β', H', k1, k2, hd, hz, .inl ⟨rfl, hQ⟩⟩
  cases e <;> cases x <;> first
    | exact fin hq
    | exact hx.elim
    | exact hq.elim
    | (obtain ⟨n, H', hk, hz, hQ⟩ := hq
       obtain ⟨v, rfl, hd, _⟩ := hx
       obtain ⟨k1, k2⟩ := kept hk
       exact ⟨hdf, v, _, K', β', H', k1, k2, hd, hz, .inr ⟨rfl, hQ⟩⟩)
theorem FunM.of {P : Program} {f : FuncId} {fn : Func} {c : Code} {ds : List D} {H : Heap} {Q : DOut → Heap → Prop} (hf : P.funcs[f]? = some fn) (hb : fn.body = some c) (hn : ds.length ≤ fn.ntmps)
    (h : ∀ C, WC P C fn.ntmps c ⟨env0 ds, H⟩ (endM P fn H Q)) : FunM P f ds H Q := FunM.ofR hf hb hn fun C _ => h C
/-- Less is asked of what is handed back. -/
theorem Fun.mono {P : Program} {f : FuncId} {ds : List D} {Q Q' : D → Prop} (h : Fun P f ds Q) (hq : ∀ d, Q d → Q' d) : Fun P f ds Q' := fun K w vs a b c =>
  (h K w vs a b c).mono fun _ _ ⟨v, d, K', h1, h2, h3⟩ => ⟨v, d, K', h1, hq d h2, h3⟩
theorem FunM.mono {P : Program} {f : FuncId} {ds : List D} {H : Heap} {Q Q' : DOut → Heap → Prop} (h : FunM P f ds H Q) (hq : ∀ d H', Q d H' → Q' d H') : FunM P f ds H Q' := fun K β w vs a b c d =>
  (h K β w vs a b c d).mono fun _ _ ⟨v, d, K', β', H', h1, h2, h3, h4, h5⟩ => ⟨v, d, K', β', H', h1, h2, h3, h4, h5.imp (fun ⟨a, b⟩ => ⟨a, hq _ _ b⟩) fun ⟨a, b⟩ => ⟨a, hq _ _ b⟩⟩
/-- What a call makes anew, and nobody changes any more. -/
theorem FunM.fun {P : Program} {f : FuncId} {ds : List D} {Q : D → Prop} (h : FunM P f ds [] fun o H' => ∃ d d', o = .ret d ∧ Frz H' d d' ∧ Q d') : Fun P f ds Q := by
  intro K w vs hl hv hK
  have hok : ∀ d ∈ ds, OkD [] d := fun d hd => by
    obtain ⟨j, hj, rfl⟩ := List.getElem_of_mem hd
    have hvt : vs[j]? = some (vs[j]'(by omega)) := List.getElem?_eq_getElem (by omega)
    exact (hv j _ _ hvt (List.getElem?_eq_getElem hj)).okp rfl
  have hst := WS.start K w hK
  refine (h K β0 w vs hst.give hl (fun j v d h1 h2 => (hv j v d h1 h2).up rfl) hok).mono fun e w' ⟨v, d, K', β', H', h1, h2, h3, h4, h5⟩ => ?_
  have h2' := hst.back h2
  have h1' := Ext.up hst h1
  rcases h5 with ⟨rfl, d0, d', e0, hz, hQ⟩ | ⟨_, d0, d', e0, _⟩
  · cases e0
    exact ⟨v, d', _, rfl, hQ, h1'.kx.trans h2'.all_kx, h2'.all_holds, (h2'.frz hz v h3).pure rfl, h2'.below.bare⟩
  · cases e0
end Go.DL
