/-
  A logic of data for the walks: how functions end, calls that may change what the caller owns, blocks held for good from here on. Plain lemmas over any program; no condition.
-/
import Derived.Test.YtpacdeiaimfiaaaDlL
import Derived.Scope
set_option linter.unusedSimpArgs false
set_option linter.unusedVariables false
namespace Go.DL
open Go.RowKit

/-! ### How functions end -/
def resOf (tmps : Array Value) : ResultVar → Sem Value
  | .tmp t => pure (tmps.getD t undef)
  | .cell a t => do loadVar t (← asAddr (tmps.getD a undef))
theorem results_eq (fn : Func) (tmps : Array Value) : results fn tmps = (do let vs ← fn.results.mapM (resOf tmps); pure (if h : vs.size = 1 then vs[0] else .tuple vs)) := by
  unfold results
  congr 1
/-- What a result reads as. -/
inductive ResIs (P : Program) (s : St) : ResultVar → D → Prop
  | tmp (t : Nat) (d : D) (h : s.env t = d) : ResIs P s (.tmp t) d
  | cell {t ty id ver off : Nat} {td : TypeDesc} {b : Blk} {d : D} (ht : s.env t = .ptr id ver off) (hu : P.underlying ty = some td) (hf : flat td = true) (hb : s.H[id]? = some (some b)) (hv : b.ver = ver) (hd : b.cs[off]? = some d) : ResIs P s (.cell t ty) d
  | agg {t ty id ver off n : Nat} {td : TypeDesc} {b : Blk} (ht : s.env t = .ptr id ver off) (hu : P.underlying ty = some td) (hf : flat td = false) (hi : (P.info? ty).map (·.size) = some n) (hb : s.H[id]? = some (some b)) (hv : b.ver = ver) (hn : Nat.ble (off + n) b.cs.length = true) :
      ResIs P s (.cell t ty) (.agg ((b.cs.drop off).take n))
theorem ResIs.run {P : Program} {s : St} {r : ResultVar} {d : D} (h : ResIs P s r d) {C : Ctx} {N : Nat} {K : Mem} {β : Nat → Nat → BT} {a : Act} {w : World} (hs : SR C N K β s a w) : ∃ v, (resOf a.tmps r).run P w = .ok v w ∧ DR K β true v d ∧ OkD s.H d := by
  cases h with
  | tmp t d h => subst h; exact ⟨a.tmps.getD t undef, rfl, hs.rd t, hs.ok t⟩
  | @cell t ty id ver off td b d ht hu hf hb hv hd =>
    subst hv
    have hp := hs.rd t
    rw [ht] at hp
    obtain ⟨e, hrl⟩ := hp.ptr_inv
    obtain ⟨us, rest, hh, hl, _, _, hdd⟩ := hs.ws.real hb hrl
    have hlt : off < us.length := by rw [hl]; exact (List.getElem?_eq_some_iff.1 hd).1
    have hc : w.cell? ⟨(β id b.ver).blk, off, none⟩ = some us[off] := by rw [cell_at hh, List.getElem?_append_left hlt, List.getElem?_eq_getElem hlt]
    have e' : (a.tmps[t]?).getD undef = .pointer (some ⟨(β id b.ver).blk, off, none⟩) := by rw [← e, Array.getD_eq_getD_getElem?]
    refine ⟨us[off], ?_, hdd off _ d (List.getElem?_eq_getElem hlt) hd, hs.ws.ok id b hb d (List.mem_of_getElem? hd)⟩
    simp [resOf, e', asAddr, loadVar, run_isAgg_flat hu hf, run_load, hc]
  | @agg t ty id ver off n td b ht hu hf hi hb hv hn =>
    have hn := Nat.le_of_ble_eq_true hn
    subst hv
    have hp := hs.rd t
    rw [ht] at hp
    obtain ⟨e, hrl⟩ := hp.ptr_inv
    obtain ⟨us, rest, hh, hl, _, _, hd⟩ := hs.ws.real hb hrl
    obtain ⟨i, hi', hi2⟩ := Option.map_eq_some_iff.1 hi
    have hrun : (loadCells ⟨(β id b.ver).blk, off, none⟩ n).run P w = .ok ((us.drop off).take n).toArray w := by
      have := run_loadCells_list (P := P) w ⟨(β id b.ver).blk, off, none⟩ ((us.drop off).take n) fun j v hv => by
        rw [List.getElem?_take] at hv
        split at hv
        · rw [List.getElem?_drop] at hv
          rw [add_lit, cell_at hh, List.getElem?_append_left (List.getElem?_eq_some_iff.1 hv).1]; exact hv
        · cases hv
      rwa [List.length_take, List.length_drop, Nat.min_eq_left (by omega)] at this
    refine ⟨.agg ((us.drop off).take n).toArray, ?_, .agg _ _ _ (by simp; omega) fun j u d hu hd' => ?_, .agg _ fun c hc => ?_⟩
    · have e' : (a.tmps[t]?).getD undef = .pointer (some ⟨(β id b.ver).blk, off, none⟩) := by rw [← e, Array.getD_eq_getD_getElem?]
      simp [resOf, e', asAddr, loadVar, run_isAgg_deep hu hf, sizeOf, typeInfo, hi', hi2, hrun]
    · rw [List.getElem?_take] at hu hd'
      split at hu
      · rw [if_pos (by assumption)] at hd'
        rw [List.getElem?_drop] at hu hd'
        exact hd _ u d hu hd'
      · cases hu
    · exact hs.ws.ok id b hb c (List.mem_of_mem_drop (List.mem_of_mem_take hc))
section
variable {P : Program} {fn : Func} {s : St} {r r1 r2 r3 r4 : ResultVar} {d d1 d2 d3 d4 : D} {C : Ctx} {N : Nat} {K : Mem} {β : Nat → Nat → BT} {a : Act} {w : World}
theorem res1 (hr : fn.results = #[r]) (h : ResIs P s r d) (hs : SR C N K β s a w) : ∃ v, (results fn a.tmps).run P w = .ok v w ∧ DR K β true v d ∧ OkD s.H d := by
  obtain ⟨v, e, h1, h2⟩ := h.run hs
  exact ⟨v, by simp [results_eq, hr, e], h1, h2⟩
theorem tupR : ∀ {us : List Value} {cs : List D}, us.length = cs.length → (∀ p ∈ us.zip cs, DR K β true p.1 p.2) → DR K β true (.tuple us.toArray) (.tup cs) := fun {us cs} hl h => by
  refine .tup _ us cs hl fun j u c hu hc => h (u, c) ?_
  exact List.mem_of_getElem? (i := j) (by rw [List.getElem?_zip_eq_some]; exact ⟨hu, hc⟩)
theorem res0 (hr : fn.results = #[]) (hs : SR C N K β s a w) : ∃ v, (results fn a.tmps).run P w = .ok v w ∧ DR K β true v (.tup []) ∧ OkD s.H (.tup []) :=
  let _ := hs
  ⟨.tuple #[], by simp [results_eq, hr], tupR (us := []) rfl (by simp), .tup _ (by simp)⟩
theorem res2 (hr : fn.results = #[r1, r2]) (h1 : ResIs P s r1 d1) (h2 : ResIs P s r2 d2) (hs : SR C N K β s a w) : ∃ v, (results fn a.tmps).run P w = .ok v w ∧ DR K β true v (.tup [d1, d2]) ∧ OkD s.H (.tup [d1, d2]) := by
  obtain ⟨v1, e1, a1, b1⟩ := h1.run hs
  obtain ⟨v2, e2, a2, b2⟩ := h2.run hs
  exact ⟨.tuple #[v1, v2], by simp [results_eq, hr, e1, e2], tupR (us := [v1, v2]) rfl (by simp [a1, a2]), .tup _ (by simp [b1, b2])⟩
theorem res3 (hr : fn.results = #[r1, r2, r3]) (h1 : ResIs P s r1 d1) (h2 : ResIs P s r2 d2) (h3 : ResIs P s r3 d3) (hs : SR C N K β s a w) : ∃ v, (results fn a.tmps).run P w = .ok v w ∧ DR K β true v (.tup [d1, d2, d3]) ∧ OkD s.H (.tup [d1, d2, d3]) := by
  obtain ⟨v1, e1, a1, b1⟩ := h1.run hs
  obtain ⟨v2, e2, a2, b2⟩ := h2.run hs
  obtain ⟨v3, e3, a3, b3⟩ := h3.run hs
  exact ⟨.tuple #[v1, v2, v3], by simp [results_eq, hr, e1, e2, e3], tupR (us := [v1, v2, v3]) rfl (by simp [a1, a2, a3]), .tup _ (by simp [b1, b2, b3])⟩
theorem res4 (hr : fn.results = #[r1, r2, r3, r4]) (h1 : ResIs P s r1 d1) (h2 : ResIs P s r2 d2) (h3 : ResIs P s r3 d3) (h4 : ResIs P s r4 d4) (hs : SR C N K β s a w) : ∃ v, (results fn a.tmps).run P w = .ok v w ∧ DR K β true v (.tup [d1, d2, d3, d4]) ∧ OkD s.H (.tup [d1, d2, d3, d4]) := by
  obtain ⟨v1, e1, a1, b1⟩ := h1.run hs
  obtain ⟨v2, e2, a2, b2⟩ := h2.run hs
  obtain ⟨v3, e3, a3, b3⟩ := h3.run hs
  obtain ⟨v4, e4, a4, b4⟩ := h4.run hs
  exact ⟨.tuple #[v1, v2, v3, v4], by simp [results_eq, hr, e1, e2, e3, e4], tupR (us := [v1, v2, v3, v4]) rfl (by simp [a1, a2, a3, a4]), .tup _ (by simp [b1, b2, b3, b4])⟩
end
theorem Frz.tup2 {H : Heap} {a b c d : D} (h1 : Frz H a c) (h2 : Frz H b d) : Frz H (.tup [a, b]) (.tup [c, d]) := by
  refine .tup _ _ rfl fun j x y hx hy => ?_
  rcases j with _ | _ | j
  · simp at hx hy; subst hx hy; exact h1
  · simp at hx hy; subst hx hy; exact h2
  · simp at hx
theorem Frz.tup3 {H : Heap} {a b c a' b' c' : D} (h1 : Frz H a a') (h2 : Frz H b b') (h3 : Frz H c c') : Frz H (.tup [a, b, c]) (.tup [a', b', c']) := by
  refine .tup _ _ rfl fun j x y hx hy => ?_
  rcases j with _ | _ | _ | j
  · simp at hx hy; subst hx hy; exact h1
  · simp at hx hy; subst hx hy; exact h2
  · simp at hx hy; subst hx hy; exact h3
  · simp at hx
theorem Frz.tup4 {H : Heap} {a b c d a' b' c' d' : D} (h1 : Frz H a a') (h2 : Frz H b b') (h3 : Frz H c c') (h4 : Frz H d d') : Frz H (.tup [a, b, c, d]) (.tup [a', b', c', d']) := by
  refine .tup _ _ rfl fun j x y hx hy => ?_
  rcases j with _ | _ | _ | _ | j
  · simp at hx hy; subst hx hy; exact h1
  · simp at hx hy; subst hx hy; exact h2
  · simp at hx hy; subst hx hy; exact h3
  · simp at hx hy; subst hx hy; exact h4
  · simp at hx
section
variable {P : Program} {fn : Func} {Q : D → Prop} {s : St} {r q1 q2 q3 q4 : ResultVar} {d d1 d2 d3 d4 d' d1' d2' d3' d4' : D} {H' : Heap}
theorem Ends.r0 (hr : fn.results = #[]) (hq : Q (.tup [])) : Ends P fn Q s := fun C N K β a w hs => by
  obtain ⟨v, e, h1, _⟩ := res0 (fn := fn) (P := P) hr hs
  exact ⟨v, _, _, e, h1, .tup _ _ rfl (by simp), hq⟩
theorem Ends.r1 (hr : fn.results = #[r]) (h : ResIs P s r d) (hz : Frz s.H d d') (hq : Q d') : Ends P fn Q s := fun C N K β a w hs => by
  obtain ⟨v, e, h1, _⟩ := res1 (fn := fn) hr h hs
  exact ⟨v, _, d', e, h1, hz, hq⟩
theorem Ends.r2 (hr : fn.results = #[q1, q2]) (h1 : ResIs P s q1 d1) (h2 : ResIs P s q2 d2) (z1 : Frz s.H d1 d1') (z2 : Frz s.H d2 d2') (hq : Q (.tup [d1', d2'])) : Ends P fn Q s := fun C N K β a w hs => by
  obtain ⟨v, e, k, _⟩ := res2 (fn := fn) hr h1 h2 hs
  exact ⟨v, _, _, e, k, .tup2 z1 z2, hq⟩
theorem Ends.r3 (hr : fn.results = #[q1, q2, q3]) (h1 : ResIs P s q1 d1) (h2 : ResIs P s q2 d2) (h3 : ResIs P s q3 d3) (z1 : Frz s.H d1 d1') (z2 : Frz s.H d2 d2') (z3 : Frz s.H d3 d3') (hq : Q (.tup [d1', d2', d3'])) : Ends P fn Q s := fun C N K β a w hs => by
  obtain ⟨v, e, k, _⟩ := res3 (fn := fn) hr h1 h2 h3 hs
  exact ⟨v, _, _, e, k, .tup3 z1 z2 z3, hq⟩
theorem Ends.r4 (hr : fn.results = #[q1, q2, q3, q4]) (h1 : ResIs P s q1 d1) (h2 : ResIs P s q2 d2) (h3 : ResIs P s q3 d3) (h4 : ResIs P s q4 d4) (z1 : Frz s.H d1 d1') (z2 : Frz s.H d2 d2') (z3 : Frz s.H d3 d3') (z4 : Frz s.H d4 d4') (hq : Q (.tup [d1', d2', d3', d4'])) : Ends P fn Q s := fun C N K β a w hs => by
  obtain ⟨v, e, k, _⟩ := res4 (fn := fn) hr h1 h2 h3 h4 hs
  exact ⟨v, _, _, e, k, .tup4 z1 z2 z3 z4, hq⟩
theorem EndsM.r0 (hr : fn.results = #[]) (hq : Q (.tup [])) : EndsM P fn Q H' s := fun C N K β a w hs => by
  obtain ⟨v, e, h1, _⟩ := res0 (fn := fn) (P := P) hr hs
  exact ⟨v, _, e, h1, .tup _ (by simp), hq⟩
theorem EndsM.r1 (hr : fn.results = #[r]) (h : ResIs P s r d) (hz : OkD H' d) (hq : Q d) : EndsM P fn Q H' s := fun C N K β a w hs => by
  obtain ⟨v, e, h1, _⟩ := res1 (fn := fn) hr h hs
  exact ⟨v, _, e, h1, hz, hq⟩
theorem EndsM.r2 (hr : fn.results = #[q1, q2]) (h1 : ResIs P s q1 d1) (h2 : ResIs P s q2 d2) (hz : OkD H' (.tup [d1, d2])) (hq : Q (.tup [d1, d2])) : EndsM P fn Q H' s := fun C N K β a w hs => by
  obtain ⟨v, e, k, _⟩ := res2 (fn := fn) hr h1 h2 hs
  exact ⟨v, _, e, k, hz, hq⟩
theorem EndsM.r3 (hr : fn.results = #[q1, q2, q3]) (h1 : ResIs P s q1 d1) (h2 : ResIs P s q2 d2) (h3 : ResIs P s q3 d3) (hz : OkD H' (.tup [d1, d2, d3])) (hq : Q (.tup [d1, d2, d3])) : EndsM P fn Q H' s := fun C N K β a w hs => by
  obtain ⟨v, e, k, _⟩ := res3 (fn := fn) hr h1 h2 h3 hs
  exact ⟨v, _, e, k, hz, hq⟩
end
/-- What is kept at the end of a call that has all. -/
theorem endM.mk {P : Program} {fn : Func} {H0 : Heap} {Q : DOut → Heap → Prop} {s : St} (n : Nat) (H' : Heap) (hk : s.H.take n = H') (hn : Nat.ble H0.length n = true) (ho : OkH H' H') (h : EndsM P fn (fun d => Q (.ret d) H') H' s) : endM P fn H0 Q .ret s := ⟨n, H', ⟨hk, Nat.le_of_ble_eq_true hn, ho⟩, h⟩
theorem endM.mkN {P : Program} {fn : Func} {H0 : Heap} {Q : DOut → Heap → Prop} {s : St} (n : Nat) (H' : Heap) (hk : s.H.take n = H') (hn : Nat.ble H0.length n = true) (ho : OkH H' H') (h : EndsM P fn (fun d => Q (.ret d) H') H' s) : endM P fn H0 Q .normal s := ⟨n, H', ⟨hk, Nat.le_of_ble_eq_true hn, ho⟩, h⟩

/-! ### Calls that have all that the caller owns -/
section
variable {P : Program} {C : Ctx} {env : Nat → D} {H H' : Heap} {dst : Option Nat} {ty t t' e : TypeId} {pos : String} {after : Array Edge} {gu : Option (Nat × Bool)} {X Y Z : Operand}
theorem upon_outcome {C : Ctx} {o : Oper} {a : Act} {Kc : Act → World → Prop} {Q : Exit → Act → World → Prop} {f : FuncId} {args : Array Value} {w w' : World} {R : Ending → World → Prop} (hr : (execOp a.eval o).run P w = .ok (.enter f args) w') (h : Calls P f args w' R)
    (hR : ∀ e w'', R e w'' → (∃ v, e = .returned v ∧ Kc (a.put o.dst v) w'') ∨ ∃ ch, e = .panicked ch ∧ Q (.panic ch) a w'') : o.wpIn (FW C.rd) 0 P a w Kc Q := by
  refine wpIn_FW (defer_run hr (fun d h => by cases h)) ?_
  rw [hr]
  show Calls P f args w' _
  refine h.mono fun e w'' he => ?_
  rcases hR e w'' he with ⟨v, rfl, hk⟩ | ⟨ch, rfl, hk⟩
  · exact hk
  · exact hk
theorem callM_core {o : Oper} {f : FuncId} {vs : List Value} {ds : List D} {R : DOut → Heap → Prop} (hf : FunM P f ds H R) {K : Mem} {β : Nat → Nat → BT} {a : Act} {w : World} {Kc : Act → World → Prop} {Q : Exit → Act → World → Prop} (hw : WS C K β H w)
    (hrun : (execOp a.eval o).run P w = .ok (.enter f vs.toArray) w) (hl : vs.length = ds.length) (hv : ∀ (j : Nat) v d, vs[j]? = some v → ds[j]? = some d → DR K β true v d) (ho : ∀ d ∈ ds, OkD H d)
    (hn : ∀ K' β' v w' d H', R (.ret d) H' → Ext C K β H K' β' H' → WS C K' β' H' w' → DR K' β' true v d → OkD H' d → Kc (a.put o.dst v) w')
    (hp : ∀ K' β' v w' d H', R (.pan d) H' → Ext C K β H K' β' H' → WS C K' β' H' w' → DR K' β' true v d → OkD H' d → Q (.panic [{ v, recovered := false }]) a w') : o.wpIn (FW C.rd) 0 P a w Kc Q := by
  refine upon_outcome hrun (hf K β w vs hw.give hl hv ho) fun e w'' ⟨v, d, K', β', H', h1, h2, h3, h4, h5⟩ => ?_
  replace h1 := Ext.up hw h1
  replace h2 := hw.back h2
  rcases h5 with ⟨rfl, h5⟩ | ⟨rfl, h5⟩
  · exact .inl ⟨v, rfl, hn _ _ _ _ _ _ h5 h1 h2 h3 h4⟩
  · exact .inr ⟨_, rfl, hp _ _ _ _ _ _ h5 h1 h2 h3 h4⟩
theorem args_rd {as : List Operand} {ds : List D} (he : ArgsAre env as ds) {K : Mem} {β : Nat → Nat → BT} {a : Act} (hx : ∀ x ∈ as, DR K β true (a.eval x) (ev env x)) (hk : ∀ x ∈ as, OkD H (ev env x)) :
    (as.map a.eval).length = ds.length ∧ (∀ (j : Nat) v d, (as.map a.eval)[j]? = some v → ds[j]? = some d → DR K β true v d) ∧ ∀ d ∈ ds, OkD H d := by
  obtain ⟨hlen, hz⟩ := he.at
  refine ⟨by simp [hlen], fun j v d hv hd => ?_, fun d hd => ?_⟩
  · rw [List.getElem?_map] at hv
    cases hj : as[j]? with
    | none => rw [hj] at hv; cases hv
    | some x =>
      rw [hj] at hv; simp at hv; subst hv
      exact (hx x (List.mem_of_getElem? hj)).arg (hz j x d hj hd)
  · obtain ⟨j, hj⟩ := List.getElem?_of_mem hd
    have hlt : j < as.length := by rw [hlen]; exact (List.getElem?_eq_some_iff.1 hj).1
    rcases hz j as[j] d (List.getElem?_eq_getElem hlt) hj with h | ⟨_, rfl⟩
    · rw [← h]; exact hk _ (List.getElem_mem hlt)
    · exact .rd _ _
/-- A call that may change what the caller owns, or throw. -/
theorem x_call {f : FuncId} {as : List Operand} {ats : Array TypeId} {ds : List D} {R : DOut → Heap → Prop} (hc : Callee P f) (hf : FunM P f ds H R) (he : ArgsAre env as ds) :
    OpX P C ⟨dst, .call { callee := .value (.func f), args := as.toArray, argTypes := ats }, ty, pos, after, gu⟩ env H R := by
  refine ⟨fun K β a w Kc Q hw hx hk hn hp => ?_⟩
  have hrun : (execOp a.eval ⟨dst, .call { callee := .value (.func f), args := as.toArray, argTypes := ats }, ty, pos, after, gu⟩).run P w = .ok (.enter f (as.map a.eval).toArray) w := by
    simp [execOp, resolve, Act.eval, Deferred.ofValue, invoke, hc.run]
  have hmem : ∀ x ∈ as, x ∈ (Op.call { callee := .value (.func f), args := as.toArray, argTypes := ats }).operands := fun x h => by simp [Op.operands, Call.operands, h]
  obtain ⟨h1, h2, h3⟩ := args_rd (H := H) he (fun x h => hx x (hmem x h)) fun x h => hk x (hmem x h)
  exact callM_core hf hw hrun h1 h2 h3 hn hp
/-- A function as a datum: what a slot holds. -/
def FnIs (d : D) (f : FuncId) (cs : List D) : Prop := d = .fn (.func f) cs ∨ (d = .v (.func (.func f) #[] #[]) ∧ cs = [])
/-- The same through a function that a slot holds. -/
theorem x_callV {f : FuncId} {as : List Operand} {ats : Array TypeId} {cs ds : List D} {R : DOut → Heap → Prop} (hX : FnIs (ev env X) f cs) (hc : Callee P f) (hf : FunM P f (ds ++ cs) H R) (he : ArgsAre env as ds) :
    OpX P C ⟨dst, .call { callee := .value X, args := as.toArray, argTypes := ats }, ty, pos, after, gu⟩ env H R := by
  refine ⟨fun K β a w Kc Q hw hx hk hn hp => ?_⟩
  have hmX : X ∈ (Op.call { callee := .value X, args := as.toArray, argTypes := ats }).operands := by simp [Op.operands, Call.operands]
  obtain ⟨us, eX, lu, du⟩ := fnD_frz hX (hx X hmX)
  have hcs : ∀ d ∈ cs, OkD H d := by
    rcases hX with h | ⟨_, rfl⟩
    · have := hk X hmX
      rw [h] at this
      cases this with
      | fn _ _ h => exact h
    · simp
  have hrun : (execOp a.eval ⟨dst, .call { callee := .value X, args := as.toArray, argTypes := ats }, ty, pos, after, gu⟩).run P w = .ok (.enter f (as.map a.eval ++ us).toArray) w := by
    simp [execOp, resolve, eX, Deferred.ofValue, invoke, hc.run]
  have hmem : ∀ x ∈ as, x ∈ (Op.call { callee := .value X, args := as.toArray, argTypes := ats }).operands := fun x h => by simp [Op.operands, Call.operands, h]
  obtain ⟨h1, h2, h3⟩ := args_rd (H := H) he (fun x h => hx x (hmem x h)) fun x h => hk x (hmem x h)
  refine callM_core hf hw hrun (by simp [lu]; simpa using h1) (fun j v d hv hd => ?_) (fun d hd => ?_) hn hp
  · by_cases hj : j < (as.map a.eval).length
    · rw [List.getElem?_append_left hj] at hv
      rw [List.getElem?_append_left (by omega)] at hd
      exact h2 j v d hv hd
    · rw [List.getElem?_append_right (by omega)] at hv
      rw [List.getElem?_append_right (by omega), ← h1] at hd
      exact du _ v d hv hd
  · rcases List.mem_append.1 hd with h | h
    · exact h3 d h
    · exact hcs d h
/-- A function of data is one that has all and leaves it. -/
theorem Fun.m {f : FuncId} {ds : List D} {Q : D → Prop} (h : Fun P f ds Q) (hp : PureAll ds) (H : Heap) : FunM P f ds H fun o H' => ∃ d, o = .ret d ∧ H' = H ∧ Q d := by
  intro K β w vs hw hl hv _
  refine (h K w vs hl (fun j v d h1 h2 => ((hv j v d h1 h2).down (hp.at d (List.mem_of_getElem? h2))).pure rfl) hw.holds).mono fun e w' ⟨v, d, K', h1, h2, h3, h4, h5, h6⟩ => ?_
  have hws := hw.ext h3.le (fun b c hb => (h3.new b c hb).imp id fun h => h.elim id False.elim) h4 h6
  exact ⟨v, d, K', β, H, ⟨h3.mono (bare_owns hw.size), Agr.refl _ _, HLe.refl _⟩, hws, (h5.pure rfl).up rfl, h5.okp rfl, .inl ⟨h1, d, rfl, rfl, h2⟩⟩
/-- From outcomes to one. -/
theorem OpX.d {o : Oper} {d : D} {H' : Heap} (h : OpX P C o env H fun x H'' => x = .ret d ∧ H'' = H') (hl : HLe H H') : OpD P C o env H d H' :=
  ⟨hl, fun K β a w Kc Q hw hx hk hn => h.go K β a w Kc Q hw hx hk (fun K' β' v w' d' H'' hR he hw' hv ho => by
    obtain ⟨h1, rfl⟩ := hR
    cases h1
    exact hn K' β' v w' he.kx he.ag hw' hv ho) fun K' β' v w' d' H'' hR _ _ _ _ => by cases hR.1⟩
theorem OpX.mono {o : Oper} {R R' : DOut → Heap → Prop} (h : OpX P C o env H R) (hr : ∀ d H', R d H' → R' d H') : OpX P C o env H R' :=
  ⟨fun K β a w Kc Q hw hx hk hn hp => h.go K β a w Kc Q hw hx hk (fun K' β' v w' d H' hR => hn K' β' v w' d H' (hr _ _ hR)) fun K' β' v w' d H' hR => hp K' β' v w' d H' (hr _ _ hR)⟩
/-- A call of a function of data through a slot. -/
theorem o_callV {f : FuncId} {as : List Operand} {ats : Array TypeId} {cs ds : List D} {d : D} (hX : FnIs (ev env X) f cs) (hc : Callee P f) (hf : Fun P f (ds ++ cs) (· = d)) (he : ArgsAre env as ds) (hp : PureAll (ds ++ cs)) :
    OpD P C ⟨dst, .call { callee := .value X, args := as.toArray, argTypes := ats }, ty, pos, after, gu⟩ env H d H :=
  ((x_callV hX hc (hf.m hp H) he).mono fun _ _ ⟨_, h1, h2, h3⟩ => ⟨h3 ▸ h1, h2⟩).d (HLe.refl _)
end

/-! ### Code: scopes, labels; loops whose blocks are told from those at the entry -/
section
variable {P : Program} {C : Ctx} {N : Nat} {s : St} {Q : DX → St → Prop}
theorem WC.label {l : Nat} (h : Q .normal s) : WC P C N (.label l) s Q := fun K β _ _ hs => wpIn_label ⟨K, β, s, .normal, Ext.refl _ _ _ _, hs, trivial, h⟩
def noGo (Q : DX → St → Prop) : DX → St → Prop
  | .goto _, _ => False
  | e, s => Q e s
theorem WC.scope {c : Code} (h : WC P C N c s (noGo Q)) : WC P C N (.scope c) s Q := by
  intro K β a w hs
  refine wpIn_scope_straight (wpIn_mono (h K β a w hs) fun e a' w' ⟨K', β', s', x, h1, h2, h3, h4⟩ => ?_)
  cases e <;> cases x <;> first
    | exact h3.elim
    | exact h4.elim
    | exact ⟨K', β', s', _, h1, h2, h3, h4⟩
end

/-! ### Blocks held for good from here on -/
theorem WS.hold' {C : Ctx} {K : Mem} {β : Nat → Nat → BT} {H : Heap} {w : World} (h : WS C K β H w) {id : Nat} {b : Blk} (hb : H[id]? = some (some b)) (hr : (β id b.ver).real = true) {o : Obj} (hc : w.heap[(β id b.ver).blk]? = some o) : WS C (K.add (β id b.ver).blk o) β (H.set id none) w := by
  have hid : id < H.length := (List.getElem?_eq_some_iff.1 hb).1
  have split : ∀ {i : Nat} {x : Blk}, (H.set id none)[i]? = some (some x) → i ≠ id ∧ H[i]? = some (some x) := by
    intro i x hx
    rw [List.getElem?_set] at hx
    by_cases e : id = i
    · rw [if_pos e, if_pos hid] at hx; cases hx
    · rw [if_neg e] at hx; exact ⟨Ne.symm e, hx⟩
  have hne : ∀ {i : Nat} {x : Blk}, H[i]? = some (some x) → (β i x.ver).real = true → i ≠ id → (β i x.ver).blk ≠ (β id b.ver).blk := fun hx hri hi he => hi (h.inj _ _ _ _ hx hb hri hr he)
  have hle : Mem.le K (K.add (β id b.ver).blk o) := Mem.le_add (h.apart id b hb hr)
  refine ⟨fun b' c' hc' => ?_, fun i x hx => ?_, fun i x hx d hd => ?_, fun i j x y hx hy hri hrj he => ?_, fun i x hx hri => ?_, fun i x hx hri => ?_, h.size, h.below, h.agr, h.hle.trans (HLe.kill _ _), h.kle.trans hle⟩
  · unfold Mem.add at hc'
    by_cases he : b' = (β id b.ver).blk
    · rw [if_pos he] at hc'; cases hc'; subst he; exact hc
    · rw [if_neg he] at hc'; exact h.holds b' c' hc'
  · obtain ⟨hi, hx⟩ := split hx
    exact (h.blk i x hx).mono hle (h.ok i x hx) (Agr.refl _ _)
  · obtain ⟨hi, hx⟩ := split hx
    exact (h.ok i x hx d hd).mono (HLe.kill _ _)
  · obtain ⟨_, hx⟩ := split hx
    obtain ⟨_, hy⟩ := split hy
    exact h.inj i j x y hx hy hri hrj he
  · obtain ⟨hi, hx⟩ := split hx
    unfold Mem.add
    rw [if_neg (hne hx hri hi)]
    exact h.apart i x hx hri
  · obtain ⟨_, hx⟩ := split hx
    exact h.base i x hx hri
/-- What a datum that names block id alone reads as, when that block stays as it is: its cells are pure. -/
inductive Frz1 (id : Nat) (b : Blk) : D → D → Prop
  | own (off n sz : Nat) (ds : List D) (h : (b.cs.drop off).take ds.length = ds) : Frz1 id b (.own id b.ver off n sz) (.rd n ds)
  | ptr (off : Nat) : Frz1 id b (.ptr id b.ver off) (.adr (b.cs.drop off))
def Frz1L (id : Nat) (b : Blk) (env : Nat → D) : List (Nat × D) → Prop
  | [] => True
  | (k, d) :: l => Frz1 id b (env k) d ∧ Frz1L id b env l
theorem Frz1L.at {id : Nat} {b : Blk} {env : Nat → D} : ∀ {l : List (Nat × D)}, Frz1L id b env l → ∀ p ∈ l, Frz1 id b (env p.1) p.2
  | [], _, p, hp => by cases hp
  | (k, d) :: l, h, p, hp => by
    rcases List.mem_cons.1 hp with rfl | hp
    · exact h.1
    · exact h.2.at p hp
theorem WS.frz1 {C : Ctx} {K : Mem} {β : Nat → Nat → BT} {H : Heap} {w : World} (h : WS C K β H w) {id : Nat} {b : Blk} (hb : H[id]? = some (some b)) (hp : ∀ c ∈ b.cs, Pure' c) : ∃ K', KX C K K' ∧ WS C K' β (H.set id none) w ∧ ∀ v d d', DR K β true v d → Frz1 id b d d' → DR K' β true v d' := by
  cases hs : (β id b.ver).st with
  | none =>
    have h0 := h.nil hb hs
    have hle : Mem.le K K := Mem.le.refl K
    have hid : id < H.length := (List.getElem?_eq_some_iff.1 hb).1
    have split : ∀ {i : Nat} {x : Blk}, (H.set id none)[i]? = some (some x) → i ≠ id ∧ H[i]? = some (some x) := by
      intro i x hx
      rw [List.getElem?_set] at hx
      by_cases e : id = i
      · rw [if_pos e, if_pos hid] at hx; cases hx
      · rw [if_neg e] at hx; exact ⟨Ne.symm e, hx⟩
    refine ⟨K, KX.refl _ _, ⟨h.holds, fun i x hx => h.blk i x (split hx).2, fun i x hx d hd => (h.ok i x (split hx).2 d hd).mono (HLe.kill _ _), fun i j x y hx hy => h.inj i j x y (split hx).2 (split hy).2, fun i x hx => h.apart i x (split hx).2, fun i x hx => h.base i x (split hx).2, h.size, h.below, h.agr, h.hle.trans (HLe.kill _ _), h.kle⟩, fun v d d' hv hz => ?_⟩
    cases hz with
    | own off n sz ds hds =>
      rw [h0] at hds
      have hds0 : ds = [] := by rw [← hds]; simp
      subst hds0
      rcases hv.own_inv with ⟨c, _, _, _, _, hr⟩ | ⟨rfl, rfl, rfl, hr⟩
      · rw [hs] at hr; cases hr
      · exact .rd _ none 0 0 [] [] (Nat.le_refl _) rfl (by simp) (by simp)
    | ptr off => have := hv.ptr_inv.2; rw [hs] at this; cases this
  | map =>
    obtain ⟨es, ck, hh, _⟩ := h.mapd hb hs
    have hr := BT.real_ofm hs
    have hle : Mem.le K (K.add (β id b.ver).blk (.map es ck)) := Mem.le_add (h.apart id b hb hr)
    refine ⟨_, ⟨hle, fun b' c' hb' => ?_⟩, h.hold' hb hr hh, fun v d d' hv hz => ?_⟩
    · unfold Mem.add at hb'
      by_cases hbb : b' = (β id b.ver).blk
      · subst hbb; exact .inr (h.base id b hb hr)
      · rw [if_neg hbb] at hb'; exact .inl hb'
    · cases hz with
      | own off n sz ds hds => rcases hv.own_inv with ⟨c, _, _, _, _, hr⟩ | ⟨_, _, _, hr⟩ <;> (rw [hs] at hr; cases hr)
      | ptr off => have := hv.ptr_inv.2; rw [hs] at this; cases this
  | cells =>
    obtain ⟨us, rest, hh, hl, _, _, hd⟩ := h.real hb hs
    have hr := BT.real_of hs
    have hle : Mem.le K (K.add (β id b.ver).blk (.cells (us ++ rest).toArray b.e (0, 0))) := Mem.le_add (h.apart id b hb hr)
    have hcell : ∀ (off j : Nat) u, us[off + j]? = some u → (K.add (β id b.ver).blk (.cells (us ++ rest).toArray b.e (0, 0))).cell ((⟨(β id b.ver).blk, off, none⟩ : Addr).add j) = some u := by
      intro off j u hu
      rw [add_lit]
      unfold Mem.cell Mem.add
      simp only [if_true, Option.isSome_none, Bool.false_eq_true, if_false, List.getElem?_toArray]
      rw [List.getElem?_append_left (List.getElem?_eq_some_iff.1 hu).1]; exact hu
    have hdd : ∀ (j : Nat) u d, us[j]? = some u → b.cs[j]? = some d → DR (K.add (β id b.ver).blk (.cells (us ++ rest).toArray b.e (0, 0))) β false u d := fun j u d hu hc =>
      ((hd j u d hu hc).down (hp d (List.mem_of_getElem? hc))).mono (H := []) hle (by intro h; cases h) (Agr.refl _ _)
    refine ⟨_, ⟨hle, fun b' c' hb' => ?_⟩, h.hold' hb hr hh, fun v d d' hv hz => ?_⟩
    · unfold Mem.add at hb'
      by_cases hbb : b' = (β id b.ver).blk
      · subst hbb; exact .inr (h.base id b hb hr)
      · rw [if_neg hbb] at hb'; exact .inl hb'
    · cases hz with
      | own off n sz ds hds =>
        have hlen : ((b.cs.drop off).take ds.length).length = ds.length := by rw [hds]
        rw [List.length_take, List.length_drop] at hlen
        rcases hv.own_inv with ⟨c, rfl, hn, _, _, _⟩ | ⟨_, _, _, hr⟩
        · refine .rd _ _ n c ((us.drop off).take ds.length) ds hn (by rw [List.length_take, List.length_drop, hl]; omega) (fun j u hu => ⟨_, rfl, ?_⟩) fun j u d hu hd' => ?_
          · rw [List.getElem?_take] at hu
            split at hu
            · rw [List.getElem?_drop] at hu; exact hcell off j u hu
            · cases hu
          · rw [List.getElem?_take] at hu
            split at hu
            · rename_i hj
              rw [List.getElem?_drop] at hu
              rw [← hds, List.getElem?_take, if_pos hj, List.getElem?_drop] at hd'
              exact hdd _ u d hu hd'
            · cases hu
        · rw [hs] at hr; cases hr
      | ptr off =>
        obtain ⟨rfl, _⟩ := hv.ptr_inv
        refine .adr _ _ (us.drop off) _ (by simp [hl]) (fun j u hu => ?_) fun j u d hu hd' => ?_
        · rw [List.getElem?_drop] at hu; exact hcell off j u hu
        · rw [List.getElem?_drop] at hu hd'; exact hdd _ u d hu hd'
theorem Frz1.ok {id : Nat} {b : Blk} {d d' : D} (h : Frz1 id b d d') (H : Heap) : OkD H d' := by
  cases h with
  | own => exact .rd _ _
  | ptr => exact .adr _
/-- From here on block id stays as it is: the slots of L read as data that nobody changes. -/
theorem WC.frz {P : Program} {C : Ctx} {N : Nat} {s : St} {Q : DX → St → Prop} {c : Code} (id : Nat) (b : Blk) (L : List (Nat × D)) (hb : s.H[id]? = some (some b)) (hp : ∀ c ∈ b.cs, Pure' c) (hL : Frz1L id b s.env L) (h : WC P C N c ⟨updL s.env L, s.H.set id none⟩ Q) : WC P C N c s Q := by
  intro K β a w hs
  obtain ⟨K', hK, hw, hz⟩ := hs.ws.frz1 hb hp
  have hs' : SR C N K' β ⟨updL s.env L, s.H.set id none⟩ a w := by
    refine ⟨hw, hs.size, hs.defers.mono hK.le, fun t => ?_, fun t => ?_⟩
    all_goals
      simp only
      rcases updL_at s.env L t with ⟨p, hp, rfl, h2⟩ | ⟨_, h2⟩
    · rw [h2]; exact hz _ _ _ (hs.rd p.1) (hL.at p hp)
    · rw [h2]; exact (hs.rd t).mono hK.le (fun _ => hs.ok t) (Agr.refl _ _)
    · rw [h2]; exact (hL.at p hp).ok _
    · rw [h2]; exact (hs.ok t).mono (HLe.kill _ _)
  exact wpIn_mono (h K' β a w hs') fun e a' w' hA => hA.mono ⟨hK, Agr.refl _ _, HLe.kill _ _⟩ fun _ _ h => h
end Go.DL
