/-
  A logic of data for the walks: ranges over functions: yield called, a round out of its body's walk. Of any program; no condition.
-/
import Derived.Test.YtbdibcpenihpdaaDlQ
set_option linter.unusedSimpArgs false
set_option linter.unusedVariables false
namespace Go.DL
open Go.RowKit

/-- A round of the loop l whose record is r, on yield's arguments. -/
def RoundT (P : Program) (l : Nat) (r : Loop) (as : Array Value) (w : World) (R : Ending → World → Prop) : Prop :=
  RoundIn (FW none) 0 P l r.fn ((r.params.zip as).foldl (fun tmps (t, a) => tmps.setIfInBounds t a) r.tmps) r.assign r.body w R
theorem round_FW {r1 r2 : Option Nat} {n m : Nat} {P : Program} {l : Nat} {f : FuncId} {tmps : Array Value} {assign body : Code} {w : World} {R : Ending → World → Prop} (h : RoundIn (FW r1) n P l f tmps assign body w R) : RoundIn (FW r2) m P l f tmps assign body w R :=
  ⟨trivial, fun c cs _ => let ⟨e, w', hr, s⟩ := h.2 c cs (room_FW _ _); ⟨e, w', hr, comes_FW (ComesIn.comes s)⟩⟩
theorem RoundT.mono {P : Program} {l : Nat} {r : Loop} {as : Array Value} {w : World} {R R' : Ending → World → Prop} (h : RoundT P l r as w R) (hr : ∀ e w, R e w → R' e w) : RoundT P l r as w R' := RoundIn.mono h hr
/-- How a call ends, by data. -/
def Post (K : Mem) (β : Nat → Nat → BT) (H : Heap) (w : World) (R : DOut → Heap → Prop) (e : Ending) (w' : World) : Prop :=
  ∃ v d K' β' H', Ext (given K β H w) K β H K' β' H' ∧ WS (given K β H w) K' β' H' w' ∧ DR K' β' true v d ∧ OkD H' d ∧ ((e = .returned v ∧ R (.ret d) H') ∨ (e = .panicked [{ v, recovered := false }] ∧ R (.pan d) H'))
section
variable {P : Program} {C : Ctx} {env : Nat → D} {H : Heap} {dst : Option Nat} {ty : TypeId} {pos : String} {after : Array Edge} {gu : Option (Nat × Bool)} {X : Operand}
/-- yield called: a round. -/
theorem x_yield {as : List Operand} {ats : Array TypeId} {ds : List D} {R : DOut → Heap → Prop} {l : Nat} {r : Loop} (hX : ev env X = .v (.func (.yield l) #[] #[])) (hW : C.W.heap[l]? = some (.loop r)) (hB : l < C.B) (hG : ¬ C.G l) (hn : as.length = r.params.size) (he : ArgsAre env as ds)
    (hy : ∀ (K : Mem) (β : Nat → Nat → BT) (w : World) (vs : List Value), WS C K β H w → vs.length = ds.length → (∀ (j : Nat) v d, vs[j]? = some v → ds[j]? = some d → DR K β true v d) → (∀ d ∈ ds, OkD H d) → RoundT P l r vs.toArray w (Post K β H w R)) :
    OpX P C ⟨dst, .call { callee := .value X, args := as.toArray, argTypes := ats }, ty, pos, after, gu⟩ env H R := by
  refine ⟨fun K β a w Kc Q hw hx hk hr hp => ?_⟩
  have hmX : X ∈ (Op.call { callee := .value X, args := as.toArray, argTypes := ats }).operands := by simp [Op.operands, Call.operands]
  have hmem : ∀ x ∈ as, x ∈ (Op.call { callee := .value X, args := as.toArray, argTypes := ats }).operands := fun x h => by simp [Op.operands, Call.operands, h]
  have hXv : a.eval X = .func (.yield l) #[] #[] := by have h := hx X hmX; rw [hX] at h; exact h.v_inv
  have hh : w.heap[l]? = some (.loop r) := (hw.below.block l hB hG).trans hW
  have hrun : (execOp a.eval ⟨dst, .call { callee := .value X, args := as.toArray, argTypes := ats }, ty, pos, after, gu⟩).run P w = (Instr.yield l (as.map a.eval).toArray).run P w := by
    simp [execOp, resolve, hXv, Deferred.ofValue, invoke]
  rw [run_yield hh (by simp [hn])] at hrun
  obtain ⟨h1, h2, h3⟩ := args_rd (H := H) he (fun x h => hx x (hmem x h)) fun x h => hk x (hmem x h)
  refine ⟨fun _ _ => trivial, ?_⟩
  rw [Oper.semAt_eq _ _ _ (fun c h => by cases h), hrun]
  refine ⟨fun e => by simp [FW] at e, round_FW ((hy K β w (as.map a.eval) hw h1 h2 h3).mono fun e w'' ⟨v, d, K', β', H', k1, k2, k3, k4, k5⟩ => ?_)⟩
  replace k1 := Ext.up hw k1
  replace k2 := hw.back k2
  rcases k5 with ⟨rfl, k5⟩ | ⟨rfl, k5⟩
  · exact hr _ _ _ _ _ _ k5 k1 k2 k3 k4
  · exact hp _ _ _ _ _ _ k5 k1 k2 k3 k4
end
/-! ### A round, out of its body's walk -/
def updPs (env : Nat → D) : List Nat → List D → (Nat → D)
  | p :: ps, d :: ds => updPs (upd env p d) ps ds
  | _, _ => env
theorem params_rd {K : Mem} {β : Nat → Nat → BT} : ∀ (ps : List Nat) (vs : List Value) (ds : List D) (tmps : Array Value) (env : Nat → D), vs.length = ds.length → (∀ p ∈ ps, p < tmps.size) → (∀ (j : Nat) v d, vs[j]? = some v → ds[j]? = some d → DR K β true v d) → (∀ t, DR K β true (tmps.getD t undef) (env t)) →
    (∀ t, DR K β true (((ps.zip vs).foldl (fun (tmps : Array Value) (x : Nat × Value) => tmps.setIfInBounds x.1 x.2) tmps).getD t undef) (updPs env ps ds t)) ∧ ((ps.zip vs).foldl (fun (tmps : Array Value) (x : Nat × Value) => tmps.setIfInBounds x.1 x.2) tmps).size = tmps.size
  | [], _, _, _, _, _, _, _, hr => ⟨by simpa [updPs] using hr, by simp⟩
  | p :: ps, [], [], _, _, _, _, _, hr => ⟨by simpa [updPs] using hr, by simp⟩
  | p :: ps, v :: vs, d :: ds, tmps, env, hl, hp, hv, hr => by
    have hk := hp p (by simp)
    have ih := params_rd ps vs ds (tmps.setIfInBounds p v) (upd env p d) (by simpa using hl) (fun q hq => by rw [Array.size_setIfInBounds]; exact hp q (by simp [hq])) (fun j x y hx hy => hv (j + 1) x y hx hy) fun t => by
      by_cases e : t = p
      · subst e
        rw [upd_at, Array.getD_eq_getD_getElem?, Array.getElem?_setIfInBounds_self_of_lt hk]
        exact hv 0 v d rfl rfl
      · rw [upd_ne _ _ e, Array.getD_eq_getD_getElem?, Array.getElem?_setIfInBounds_ne (Ne.symm e), ← Array.getD_eq_getD_getElem?]
        exact hr t
    exact ⟨ih.1, by rw [List.zip_cons_cons, List.foldl_cons]; exact ih.2.trans (by simp)⟩
  | _ :: _, _ :: _, [], _, _, hl, _, _, _ => by simp at hl
  | _ :: _, [], _ :: _, _, _, hl, _, _, _ => by simp at hl
theorem params_ok {H : Heap} : ∀ (ps : List Nat) (ds : List D) (env : Nat → D), (∀ d ∈ ds, OkD H d) → (∀ t, OkD H (env t)) → ∀ t, OkD H (updPs env ps ds t)
  | [], _, _, _, h, t => by simpa [updPs] using h t
  | _ :: _, [], _, _, h, t => by simpa [updPs] using h t
  | p :: ps, d :: ds, env, hd, h, t => params_ok ps ds (upd env p d) (fun x hx => hd x (by simp [hx])) (fun t => by
      by_cases e : t = p
      · subst e; rw [upd_at]; exact hd d (by simp)
      · rw [upd_ne _ _ e]; exact h t) t
/-- A body's end: off its end; the blocks that are kept are H'. -/
def bodyEnd (H' : Heap) (x : DX) (s : St) : Prop := x = .normal ∧ s.H.take H'.length = H' ∧ OkH H' H'
theorem round_of {P : Program} {C : Ctx} {N : Nat} {s : St} {K0 : Mem} {β0 : Nat → Nat → BT} {a : Act} {w0 : World} (h0 : SR C N K0 β0 s a w0) {l : Nat} {r : Loop} (hr : r.state = .ready ∧ r.pending = none ∧ r.tmps = a.tmps) {H H' : Heap} (hle : HLe s.H H) (hl' : H.length ≤ H'.length) {ds : List D} (hp : ∀ p ∈ r.params.toList, p < N)
    {K : Mem} {β : Nat → Nat → BT} {w : World} {vs : List Value} (hK0 : Mem.le K0 K) (hKl : K l = some (.loop r)) (hag : Agr s.H β0 β) (hws : WS (given K β H w) K β H w) (hl : vs.length = ds.length) (hv : ∀ (j : Nat) v d, vs[j]? = some v → ds[j]? = some d → DR K β true v d) (ho : ∀ d ∈ ds, OkD H d)
    (hb : ∀ C', WC P C' N r.assign ⟨updPs s.env r.params.toList ds, H⟩ (thenQ (fun s1 => ∀ C'', WC P C'' N r.body s1 (bodyEnd H')) fun _ _ => False)) :
    RoundT P l r vs.toArray w (Post K β H w fun o H'' => o = .ret (.v (.bool true)) ∧ H'' = H') := by
  have hh : w.heap[l]? = some (.loop r) := hws.holds l _ hKl
  have hlB : l < w.heap.size := hws.klt hKl
  have hng : ¬ gives β H l := fun ⟨id, b, hb', hrl, e⟩ => by
    have := hws.apart id b hb' hrl
    rw [e, hKl] at this; cases this
  have hin : inert (.loop r) := inert_loop r
  let C1 : Ctx := ⟨w.heap.size, w, gives β H, some l, H, β, K.del l⟩
  have hdl : ∀ b c, (K.del l) b = some c → K b = some c ∧ b ≠ l := fun b c hb' => by
    unfold Mem.del at hb'
    by_cases e : b = l
    · rw [if_pos e] at hb'; cases hb'
    · rw [if_neg e] at hb'; exact ⟨hb', e⟩
  have hw1 : WS C1 (K.del l) β H w := ⟨fun b c hb' => hws.holds b c (hdl b c hb').1, fun id b hb' => (hws.blk id b hb').drop hKl hin, hws.ok, hws.inj, fun id b hb' hrl => by
      unfold Mem.del
      split
      · rfl
      · exact hws.apart id b hb' hrl, fun id b hb' hrl => .inr ⟨id, b, hb', hrl, rfl⟩, Nat.le_refl _, Bel.start _, Agr.refl _ _, HLe.refl _, Mem.le.refl _⟩
  have hfold : (r.params.zip vs.toArray).foldl (fun tmps (t, a) => tmps.setIfInBounds t a) r.tmps = (r.params.toList.zip vs).foldl (fun (tmps : Array Value) (x : Nat × Value) => tmps.setIfInBounds x.1 x.2) a.tmps := by
    rw [hr.2.2, ← Array.foldl_toList, Array.toList_zip]
  obtain ⟨hrd, hsz⟩ := params_rd (K := K.del l) (β := β) r.params.toList vs ds a.tmps s.env hl (fun p hp' => by rw [h0.size]; exact hp p hp') (fun j v d h1 h2 => (hv j v d h1 h2).drop hKl hin) fun t => ((h0.rd t).mono hK0 (fun _ => h0.ok t) hag).drop hKl hin
  have hs1 : SR C1 N (K.del l) β ⟨updPs s.env r.params.toList ds, H⟩ ⟨(r.params.zip vs.toArray).foldl (fun tmps (t, a) => tmps.setIfInBounds t a) r.tmps, []⟩ w :=
    ⟨hw1, by rw [hfold]; exact hsz.trans h0.size, trivial, fun t => by rw [hfold]; exact hrd t, params_ok _ _ _ ho fun t => (h0.ok t).mono hle⟩
  unfold RoundT
  refine roundIn_of_wpIn (F := FW none) trivial ?_
  show r.assign.wpIn (FW C1.rd) 0 P _ _ w
  refine wpIn_mono (hb C1 _ _ _ _ hs1) fun e a1 w1 hA => ?_
  cases e with
  | normal =>
    obtain ⟨K1, β1, s1, hX1, hs1', hbody⟩ := hA.normal
    have hl1 : w1.heap[l]? = some (.loop r) := (hs1'.ws.below.block l hlB hng).trans hh
    have hK1l : K1 l = none := by
      cases e : K1 l with
      | none => rfl
      | some o =>
        rcases hX1.kx.new l o e with h1 | h1 | h1
        · exact absurd rfl (hdl l o h1).2
        · exact absurd hlB (Nat.not_lt.2 h1)
        · exact absurd h1 hng
    refine ⟨_, run_beginRound hl1 hr.1, ?_⟩
    have hlt1 : l < w1.heap.size := (Array.getElem?_eq_some_iff.1 hl1).1
    let w2 := w1.putObj l (.loop { r with state := .busy })
    let C2 : Ctx := { C1 with W := w2 }
    have hne : ∀ {β' : Nat → Nat → BT} {K' : Mem} {H'' : Heap} {w' : World} (h : WS C2 K' β' H'' w') {id : Nat} {b : Blk}, H''[id]? = some (some b) → (β' id b.ver).real = true → (β' id b.ver).blk ≠ l := fun {β' K' H'' w'} h {id b} hb' hrl e => by
      rcases h.base id b hb' hrl with h1 | h1
      · rw [e] at h1; exact absurd hlB (Nat.not_lt.2 h1)
      · rw [e] at h1; exact hng h1
    have hne1 : ∀ {id : Nat} {b : Blk}, s1.H[id]? = some (some b) → (β1 id b.ver).real = true → (β1 id b.ver).blk ≠ l := fun {id b} hb' hrl e => by
      rcases hs1'.ws.base id b hb' hrl with h1 | h1
      · rw [e] at h1; exact absurd hlB (Nat.not_lt.2 h1)
      · rw [e] at h1; exact hng h1
    have hw2 : WS C2 K1 β1 s1.H w2 := ⟨fun b c hb' => by
        rw [World.putObj_heap_other (fun e => by rw [e, hK1l] at hb'; cases hb')]; exact hs1'.ws.holds b c hb', fun id b hb' => (hs1'.ws.blk id b hb').other fun hrl => World.putObj_heap_other (hne1 hb' hrl), hs1'.ws.ok, hs1'.ws.inj, hs1'.ws.apart, hs1'.ws.base, by
        show C1.B ≤ (w1.putObj _ _).heap.size
        rw [World.putObj_size]; exact hs1'.ws.size, ⟨rfl, rfl, rfl, Nat.le_refl _, fun _ _ _ => rfl⟩, hs1'.ws.agr, hs1'.ws.hle, hs1'.ws.kle⟩
    have hs2 : SR C2 N K1 β1 s1 a1 w2 := ⟨hw2, hs1'.size, hs1'.defers, hs1'.rd, hs1'.ok⟩
    refine wpIn_mono (hbody C2 K1 β1 a1 w2 hs2) fun e3 a3 w3 hA3 => ?_
    obtain ⟨K3, β3, s3, x3, hX3, hs3, hx3, rfl, ht, hokH⟩ := hA3
    cases e3 <;> first | exact hx3.elim | skip
    have hl3 : w3.heap[l]? = some (.loop { r with state := .busy }) := (hs3.ws.below.block l hlB hng).trans (World.putObj_heap_same hlt1)
    have hlt3 : l < w3.heap.size := (Array.getElem?_eq_some_iff.1 hl3).1
    have hre : ({ ({ r with state := .busy } : Loop) with state := if (none : Option Code).isNone then .ready else .done, pending := none } : Loop) = r := by
      obtain ⟨h1, h2, _⟩ := hr
      cases r
      simp_all
    have hend := run_endRound (P := P) none hl3
    rw [hre] at hend
    refine ⟨_, _, hend, ?_⟩
    have hK3l : K3 l = none := by
      cases e : K3 l with
      | none => rfl
      | some o =>
        rcases hX3.kx.new l o e with h1 | h1 | h1
        · rw [hK1l] at h1; cases h1
        · exact absurd hlB (Nat.not_lt.2 h1)
        · exact absurd h1 hng
    have hle3 : Mem.le K3 (K3.add l (.loop r)) := Mem.le_add hK3l
    have hKle : Mem.le K (K3.add l (.loop r)) := fun b c hb' => by
      by_cases e : b = l
      · subst e; rw [hKl] at hb'; cases hb'; unfold Mem.add; rw [if_pos rfl]
      · exact hle3 _ _ (hX3.kx.le _ _ (hX1.kx.le _ _ (by unfold Mem.del; rw [if_neg e]; exact hb')))
    have hHle : HLe H H' := by
      have h1 := (hX1.le.trans hX3.le).take hl'
      rwa [ht] at h1
    have hagr : Agr H β β3 := hX1.ag.up hX1.le hX3.ag
    have hw3 := wsTake hs3.ws H'.length (by rw [ht]; exact hokH.at) (by rw [ht]; exact hHle)
    rw [ht] at hw3
    refine ⟨_, .v (.bool true), K3.add l (.loop r), β3, H', ⟨⟨hKle, fun b c hb' => ?_⟩, hagr, hHle⟩, ⟨fun b c hb' => ?_, fun id b hb' => ?_, hw3.ok, hw3.inj, fun id b hb' hrl => ?_, hw3.base, ?_, ?_, hagr, hHle, hKle⟩, .v _ _, .v _, .inl ⟨rfl, rfl, rfl⟩⟩
    · by_cases e : b = l
      · subst e; unfold Mem.add at hb'; rw [if_pos rfl] at hb'; cases hb'; exact .inl hKl
      · unfold Mem.add at hb'
        rw [if_neg e] at hb'
        rcases hX3.kx.new b c hb' with h1 | h1
        · rcases hX1.kx.new b c h1 with h2 | h2
          · exact .inl (hdl b c h2).1
          · exact .inr h2
        · exact .inr h1
    · by_cases e : b = l
      · subst e; unfold Mem.add at hb'; rw [if_pos rfl] at hb'; cases hb'; exact World.putObj_heap_same hlt3
      · unfold Mem.add at hb'
        rw [if_neg e] at hb'
        rw [World.putObj_heap_other e]; exact hs3.ws.holds b c hb'
    · exact ((hw3.blk id b hb').mono hle3 (hw3.ok id b hb') (Agr.refl _ _)).other fun hrl => World.putObj_heap_other (hne hw3 hb' hrl)
    · unfold Mem.add
      rw [if_neg (hne hw3 hb' hrl)]; exact hw3.apart id b hb' hrl
    · rw [World.putObj_size]; exact hw3.size
    · refine ⟨hs3.ws.below.os.trans hs1'.ws.below.os, hs3.ws.below.tape.trans hs1'.ws.below.tape, hs3.ws.below.output.trans hs1'.ws.below.output, by rw [World.putObj_size]; exact hw3.size, fun k hk hg => ?_⟩
      by_cases e : k = l
      · subst e; rw [World.putObj_heap_same hlt3]; exact hh.symm
      · rw [World.putObj_heap_other e]
        refine (hs3.ws.below.block k hk hg).trans ?_
        show (w1.putObj _ _).heap[k]? = _
        rw [World.putObj_heap_other e]; exact hs1'.ws.below.block k hk hg
  | _ =>
    obtain ⟨K1, β1, s1, x, _, _, hx, hq⟩ := hA
    cases x <;> first | exact hx.elim | exact hq.elim
end Go.DL
