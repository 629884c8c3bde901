/-
  A logic of data for the walks: parts of results, structs built and held against each other, the least and the greatest, functions as data. Plain lemmas over any program; no condition.
-/
import Derived.Test.YtpacdeiaimfiaaaDlK
import Derived.Laws.Tables
import Derived.Laws.StructEq
set_option linter.unusedSimpArgs false
set_option linter.unusedVariables false
namespace Go.DL
open Go.RowKit

section
variable {P : Program} {C : Ctx} {env : Nat → D} {H : Heap} {dst : Option Nat} {ty t t' e : TypeId} {pos : String} {after : Array Edge} {gu : Option (Nat × Bool)} {X Y Z : Operand}
theorem o_extract {ds : List D} {i : Nat} {d : D} (hx : ev env X = .tup ds) (hd : ds[i]? = some d) : OpD P C ⟨dst, .extract X i, ty, pos, after, gu⟩ env H d H := by
  refine OpD.same fun K β ac w _ h hk => ?_
  have h0 := h X (by simp [Op.operands])
  have hk0 := hk X (by simp [Op.operands])
  rw [hx] at h0 hk0
  obtain ⟨us, e1, hl, hds⟩ := h0.tup_inv
  have hlt : i < us.length := by rw [hl]; exact (List.getElem?_eq_some_iff.1 hd).1
  refine ⟨us[i], ?_, hds i _ d (List.getElem?_eq_getElem hlt) hd, ?_⟩
  · simp [execOp, e1, Instr.extract, hlt]
  · cases hk0 with | tup _ hk0 => exact hk0 d (List.mem_of_getElem? hd)

theorem cellsD_ok {d : D} (h : OkD H d) : ∀ c ∈ cellsD d, OkD H c := by
  intro c hc
  cases d with
  | agg cs => cases h with | agg _ h => exact h c hc
  | _ => simp [cellsD] at hc; subst hc; exact h
/-! ### Structs built -/
def dfill (env : Nat → D) (pl : Nat → Option (Nat × Nat)) : List D → List (Nat × Operand) → Option (List D)
  | cs, [] => some cs
  | cs, (i, x) :: ps => match pl i with
    | none => none
    | some (off, size) => if ((cellsD (ev env x)).all oneD && (Nat.beq (cellsD (ev env x)).length size && Nat.ble (off + size) cs.length)) = true then dfill env pl (spl cs off (cellsD (ev env x))) ps else none
theorem dfill_core {K : Mem} {β : Nat → Nat → BT} {a : Act} {pl : Nat → Option (Nat × Nat)} : ∀ (ps : List (Nat × Operand)) (cv : Array Value) (cd cs : List D), cv.size = cd.length → (∀ (j : Nat) u d, cv.toList[j]? = some u → cd[j]? = some d → DR K β true u d) → (∀ d ∈ cd, OkD H d) →
    (∀ p ∈ ps, DR K β true (a.eval p.2) (ev env p.2) ∧ OkD H (ev env p.2)) → dfill env pl cd ps = some cs →
    ∃ r : Array Value, Instr.fill pl cv (ps.map fun p => (p.1, a.eval p.2)) = some r ∧ r.size = cs.length ∧ (∀ (j : Nat) u d, r.toList[j]? = some u → cs[j]? = some d → DR K β true u d) ∧ (∀ d ∈ cs, OkD H d)
  | [], cv, cd, cs, hl, hd, ho, _, hf => by
    simp only [dfill, Option.some.injEq] at hf
    subst hf
    exact ⟨cv, rfl, hl, hd, ho⟩
  | (i, x) :: ps, cv, cd, cs, hl, hd, ho, hp, hf => by
    obtain ⟨h4, h5⟩ := hp (i, x) (by simp)
    simp only at h4 h5
    unfold dfill at hf
    cases hpl : pl i with
    | none => rw [hpl] at hf; cases hf
    | some q =>
      obtain ⟨off, size⟩ := q
      rw [hpl] at hf
      simp only at hf
      split at hf
      · rename_i hc
        rw [Bool.and_eq_true, Bool.and_eq_true] at hc
        obtain ⟨h1, h2, h3⟩ := hc
        have h2 := Nat.eq_of_beq_eq_true h2
        have h3 := Nat.le_of_ble_eq_true h3
        obtain ⟨c1, c2, _⟩ := cellsD.val h4 h1
        have hcl : (a.eval x).cells.toList.length = size := by rw [Array.length_toList, c1, h2]
        have hl' : cv.toList.length = cd.length := by rw [Array.length_toList]; exact hl
        have hset := foldl_set off (a.eval x).cells.toList 0 cv (by omega)
        have hsl : (((a.eval x).cells.zipIdx.foldl (fun cs (c, j) => cs.setIfInBounds (off + j) c) cv)).toList = spl cv.toList off (a.eval x).cells.toList := by
          rw [← Array.foldl_toList, Array.toList_zipIdx, hset]; simp
        obtain ⟨r, e1, e2, e3, e4⟩ := dfill_core ps ((a.eval x).cells.zipIdx.foldl (fun cs (c, j) => cs.setIfInBounds (off + j) c) cv) (spl cd off (cellsD (ev env x))) cs (by
            rw [← Array.length_toList, hsl, spl_length (by omega), spl_length (by omega)]; exact hl')
          (fun j u d hu hd' => by
            rw [hsl, spl_get (by omega), hcl] at hu
            rw [spl_get (by omega), h2] at hd'
            by_cases g1 : j < off
            · rw [if_pos g1] at hu hd'; exact hd j u d hu hd'
            · rw [if_neg g1] at hu hd'
              by_cases g2 : j < off + size
              · rw [if_pos g2] at hu hd'; exact c2 _ u d hu hd'
              · rw [if_neg g2] at hu hd'; exact hd j u d hu hd')
          (fun d hd' => by
            unfold spl at hd'
            rcases List.mem_append.1 hd' with hd' | hd'
            · rcases List.mem_append.1 hd' with hd' | hd'
              · exact ho d (List.mem_of_mem_take hd')
              · exact cellsD_ok h5 d hd'
            · exact ho d (List.mem_of_mem_drop hd'))
          (fun q hq => hp q (by simp [hq])) hf
        refine ⟨r, ?_, e2, e3, e4⟩
        rw [List.map_cons]
        unfold Instr.fill
        simp only [hpl]
        rw [if_neg (by simp only [ne_eq, Bool.or_eq_true, decide_eq_true_eq, not_or]; omega)]
        exact e1
      · cases hf
theorem o_build {zv : Value} {n bytes : Nat} {fs : Array Field} {pl : List (Nat × Nat)} {ps : List (Nat × Operand)} {cs : List D} (ht : P.underlying t = some (.struct fs)) (hi : (P.info? t).map (fun i => (i.zero, i.size, i.bytes)) = some (some zv, n, bytes))
    (hp : fs.toList.mapM (fun f => (P.info? f.type).map fun i => (f.offset, i.size)) = some pl) (hd : dfill env (pl.toArray[·]?) (zv.cells.toList.map D.v) ps = some cs) :
    OpD P C ⟨dst, .build t ps.toArray, ty, pos, after, gu⟩ env H (.agg cs) H := by
  refine OpD.same fun K β ac w _ h hk => ?_
  obtain ⟨i, hi1, hi2, hi3, hi4⟩ := info_parts hi
  have hmem : ∀ p ∈ ps, p.2 ∈ (Op.build t ps.toArray).operands := fun p hp => by simp [Op.operands]; exact ⟨p.1, hp⟩
  obtain ⟨r, e1, e2, e3, e4⟩ := dfill_core (H := H) (env := env) (K := K) (β := β) (a := ac) ps zv.cells (zv.cells.toList.map D.v) cs (by simp) (fun j u d hu hd' => by
      rw [List.getElem?_map, hu] at hd'; simp at hd'; subst hd'; exact .v _ _) (fun d hd' => by obtain ⟨u, _, rfl⟩ := List.mem_map.1 hd'; exact .v _) (fun p hp => ⟨h _ (hmem p hp), hk _ (hmem p hp)⟩) hd
  have hb : P.built t (ps.map fun p => (p.1, ac.eval p.2)) = some r := by
    unfold Program.built
    simp only [hi1, ht, hi2, hp]
    exact e1
  refine ⟨.agg r, ?_, ?_, .agg _ e4⟩
  · have := run_build (P := P) w t (ps.map fun p => (p.1, ac.eval p.2)).toArray r (by simpa using hb)
    simp only [execOp, Sem.run_bind, List.map_toArray, this, Result.andThen_ok, Sem.run_pure]
  · have e : Value.agg r = .agg r.toList.toArray := by simp
    rw [e]
    exact .agg _ _ _ (by rw [Array.length_toList]; exact e2) e3

/-! ### Structs held against each other -/
def eq1 : D → D → Bool
  | .v (.int _ a), .v (.int _ b) => a == b
  | .v (.bool a), .v (.bool b) => a == b
  | .v (.string a), .v (.string b) => a.toList == b.toList
  | _, _ => false
def eqDs : List D → List D → Bool
  | [], [] => true
  | x :: xs, y :: ys => eq1 x y && eqDs xs ys
  | _, _ => false
/-- A struct whose fields are of one cell each, numbers, truths or strings. -/
def flatOK : List TypeDesc → List D → List D → Bool
  | [], [], [] => true
  | td :: tds, x :: xs, y :: ys => (match td, x, y with
    | .int k, .v (.int k1 _), .v (.int k2 _) => decide (k1 = k ∧ k2 = k)
    | .bool, .v (.bool _), .v (.bool _) => true
    | .string, .v (.string _), .v (.string _) => true
    | _, _, _ => false) && flatOK tds xs ys
  | _, _, _ => false
structure FlatS (P : Program) (t : TypeId) (tds : List TypeDesc) : Prop where
  un : P.underlying t = some (.struct (P.fieldsOf t))
  held : P.stoodInHeld t = false
  grd : P.eqGuardType P.depth t = false
  fl : (P.fieldsOf t).toList.map (fun f => (f.name != "_", f.offset, P.underlying f.type)) = tds.zipIdx.map (fun q => (true, q.2, some q.1))
theorem run_part {t : TypeId} {td : TypeDesc} {cs : Array Value} {off : Nat} {v : Value} {w : World} (ht : P.underlying t = some td) (hf : flat td = true) (hv : cs[off]? = some v) : (part t cs off).run P w = .ok v w := by
  cases td <;> first
    | (simp [flat] at hf; done)
    | simp [part, isAgg, run_underlying ht, hv]
theorem eqFields_run {us vs : List Value} {w : World} : ∀ (fs : List Field) (k : Nat) (tds : List TypeDesc) (xs ys : List D), fs.map (fun f => (f.name != "_", f.offset, P.underlying f.type)) = (tds.zipIdx k).map (fun q => (true, q.2, some q.1)) → flatOK tds xs ys = true →
    (∀ (j : Nat) x, xs[j]? = some x → ∃ u, us[k + j]? = some u ∧ x = .v u) → (∀ (j : Nat) x, ys[j]? = some x → ∃ u, vs[k + j]? = some u ∧ x = .v u) → (Op.eqFields 9999 us.toArray vs.toArray fs).run P w = .ok (eqDs xs ys) w
  | [], k, tds, xs, ys, hf, ho, _, _ => by
    cases tds with
    | cons _ _ => simp at hf
    | nil => cases xs <;> cases ys <;> first | (simp [flatOK] at ho; done) | simp [Op.eqFields, eqDs]
  | f :: fs, k, tds, xs, ys, hf, ho, hx, hy => by
    cases tds with
    | nil => simp at hf
    | cons td tds =>
      cases xs with
      | nil => simp [flatOK] at ho
      | cons x xs =>
        cases ys with
        | nil => simp [flatOK] at ho
        | cons y ys =>
          rw [List.map_cons, List.zipIdx_cons, List.map_cons, List.cons.injEq] at hf
          obtain ⟨hf1, hf2⟩ := hf
          simp only [Prod.mk.injEq] at hf1
          obtain ⟨g1, g2, g3⟩ := hf1
          have g1' : f.name ≠ "_" := by simpa using g1
          unfold flatOK at ho
          rw [Bool.and_eq_true] at ho
          obtain ⟨ho1, ho2⟩ := ho
          obtain ⟨u, hu, rfl⟩ := hx 0 x rfl
          obtain ⟨v, hv, rfl⟩ := hy 0 y rfl
          have ih := eqFields_run (us := us) (vs := vs) (w := w) fs (k + 1) tds xs ys hf2 ho2 (fun j x h => by
              obtain ⟨u, h1, h2⟩ := hx (j + 1) x (by simpa using h); exact ⟨u, by rw [← h1]; congr 1; omega, h2⟩) (fun j x h => by
              obtain ⟨u, h1, h2⟩ := hy (j + 1) x (by simpa using h); exact ⟨u, by rw [← h1]; congr 1; omega, h2⟩)
          have hflat : flat td = true := by cases td <;> first | rfl | (simp at ho1; done)
          have p1 := run_part (P := P) (w := w) (cs := us.toArray) (off := f.offset) g3 hflat (by rw [g2]; simpa using hu)
          have p2 := run_part (P := P) (w := w) (cs := vs.toArray) (off := f.offset) g3 hflat (by rw [g2]; simpa using hv)
          have hr : (Op.equalIn 9999 f.type u v).run P w = .ok (eq1 (.v u) (.v v)) w := by
            cases td <;> cases u <;> first | (simp at ho1; done) | skip
            all_goals cases v <;> first | (simp at ho1; done) | skip
            · exact run_equalIn_bool w 9998 f.type _ _ g3
            · simp only [decide_eq_true_eq] at ho1
              obtain ⟨rfl, rfl⟩ := ho1
              exact run_equalIn_int w 9998 f.type _ _ _ _ g3
            · exact run_equalIn_string w 9998 f.type _ _ g3
          unfold Op.eqFields
          rw [if_pos g1']
          simp only [Sem.run_bind, p1, p2, hr, Result.andThen_ok]
          cases hb : eq1 (.v u) (.v v) with
          | true => simp [eqDs, hb, ih]
          | false => simp [eqDs, hb]

theorem flatOK_v : ∀ {tds : List TypeDesc} {xs ys : List D}, flatOK tds xs ys = true → (∀ x ∈ xs, ∃ u, x = .v u) ∧ (∀ y ∈ ys, ∃ u, y = .v u)
  | [], [], [], _ => ⟨by simp, by simp⟩
  | [], _ :: _, _, h => by simp [flatOK] at h
  | [], [], _ :: _, h => by simp [flatOK] at h
  | _ :: _, [], _, h => by simp [flatOK] at h
  | _ :: _, _ :: _, [], h => by simp [flatOK] at h
  | td :: tds, x :: xs, y :: ys, h => by
    unfold flatOK at h
    rw [Bool.and_eq_true] at h
    obtain ⟨h1, h2⟩ := h
    obtain ⟨i1, i2⟩ := flatOK_v h2
    have hx : (∃ u, x = .v u) ∧ (∃ u, y = .v u) := by
      cases x <;> first | (cases td <;> simp at h1; done) | skip
      cases y <;> first | (cases td <;> simp at h1; done) | skip
      all_goals first | exact ⟨⟨_, rfl⟩, ⟨_, rfl⟩⟩ | (rename_i v; cases td <;> cases v <;> simp at h1)
    exact ⟨fun z hz => (List.mem_cons.1 hz).elim (fun e => e ▸ hx.1) (i1 z), fun z hz => (List.mem_cons.1 hz).elim (fun e => e ▸ hx.2) (i2 z)⟩
theorem agg_v {K : Mem} {β : Nat → Nat → BT} {m : Bool} {us : List Value} {cs : List D} (hl : us.length = cs.length) (hd : ∀ (j : Nat) u d, us[j]? = some u → cs[j]? = some d → DR K β m u d) (hv : ∀ x ∈ cs, ∃ u, x = .v u) : ∀ (j : Nat) x, cs[j]? = some x → ∃ u, us[0 + j]? = some u ∧ x = .v u := by
  intro j x hx
  obtain ⟨u, rfl⟩ := hv x (List.mem_of_getElem? hx)
  have hlt : j < us.length := by rw [hl]; exact (List.getElem?_eq_some_iff.1 hx).1
  have := (hd j _ _ (List.getElem?_eq_getElem hlt) hx).v_inv
  exact ⟨u, by rw [Nat.zero_add, List.getElem?_eq_getElem hlt, this], rfl⟩
theorem o_eqS {tds : List TypeDesc} {xs ys : List D} (S : FlatS P t tds) (hx : ev env X = .agg xs) (hy : ev env Y = .agg ys) (ho : flatOK tds xs ys = true) : OpD P C ⟨dst, .binOp .eql t X Y t', ty, pos, after, gu⟩ env H (.v (.bool (eqDs xs ys))) H := by
  refine OpD.same fun K β ac w _ h _ => ?_
  have h0 := h X (by simp [Op.operands])
  have h1 := h Y (by simp [Op.operands])
  rw [hx] at h0; rw [hy] at h1
  obtain ⟨us, e0, l0, d0⟩ := h0.agg_inv
  obtain ⟨vs, e1, l1, d1⟩ := h1.agg_inv
  obtain ⟨v0, v1⟩ := flatOK_v ho
  have hr := eqFields_run (P := P) (w := w) (us := us) (vs := vs) (P.fieldsOf t).toList 0 tds xs ys S.fl ho (agg_v l0 d0 v0) (agg_v l1 d1 v1)
  refine ⟨.bool (eqDs xs ys), ?_, .v _ _, .v _⟩
  simp only [execOp, e0, e1, Sem.run_bind, run_eqGuard_agg w .eql t X Y us.toArray vs.toArray S.grd, Result.andThen_ok, run_eql_struct, run_equalIn_agg w 9999 t _ _ S.un S.held, hr, Sem.run_pure]
theorem o_neS {tds : List TypeDesc} {xs ys : List D} (S : FlatS P t tds) (hx : ev env X = .agg xs) (hy : ev env Y = .agg ys) (ho : flatOK tds xs ys = true) : OpD P C ⟨dst, .binOp .neq t X Y t', ty, pos, after, gu⟩ env H (.v (.bool !(eqDs xs ys))) H := by
  refine OpD.same fun K β ac w _ h _ => ?_
  have h0 := h X (by simp [Op.operands])
  have h1 := h Y (by simp [Op.operands])
  rw [hx] at h0; rw [hy] at h1
  obtain ⟨us, e0, l0, d0⟩ := h0.agg_inv
  obtain ⟨vs, e1, l1, d1⟩ := h1.agg_inv
  obtain ⟨v0, v1⟩ := flatOK_v ho
  have hr := eqFields_run (P := P) (w := w) (us := us) (vs := vs) (P.fieldsOf t).toList 0 tds xs ys S.fl ho (agg_v l0 d0 v0) (agg_v l1 d1 v1)
  refine ⟨.bool !(eqDs xs ys), ?_, .v _ _, .v _⟩
  simp only [execOp, e0, e1, Sem.run_bind, run_eqGuard_agg w .neq t X Y us.toArray vs.toArray S.grd, Result.andThen_ok, run_neq_struct, run_equalIn_agg w 9999 t _ _ S.un S.held, hr, Sem.run_pure]

/-! ### The least, the greatest -/
theorem o_max {a b : Int} {ats : Array TypeId} (hx : ev env X = I64 a) (hy : ev env Y = I64 b) : OpD P C ⟨dst, .call { callee := .builtin .max, args := #[X, Y], argTypes := ats }, ty, pos, after, gu⟩ env H (I64 (if b > a then b else a)) H := by
  refine OpD.same fun K β ac w _ h _ => ?_
  have h0 := h X (by simp [Op.operands, Call.operands])
  have h1 := h Y (by simp [Op.operands, Call.operands])
  rw [hx] at h0; rw [hy] at h1
  refine ⟨.int .i64 (if b > a then b else a), ?_, .v _ _, .v _⟩
  simp [execOp, resolve, invoke, builtin, Builtin.max_, Builtin.max2, h0.v_inv, h1.v_inv]
theorem o_min {a b : Int} {ats : Array TypeId} (hx : ev env X = I64 a) (hy : ev env Y = I64 b) : OpD P C ⟨dst, .call { callee := .builtin .min, args := #[X, Y], argTypes := ats }, ty, pos, after, gu⟩ env H (I64 (if b < a then b else a)) H := by
  refine OpD.same fun K β ac w _ h _ => ?_
  have h0 := h X (by simp [Op.operands, Call.operands])
  have h1 := h Y (by simp [Op.operands, Call.operands])
  rw [hx] at h0; rw [hy] at h1
  refine ⟨.int .i64 (if b < a then b else a), ?_, .v _ _, .v _⟩
  simp [execOp, resolve, invoke, builtin, Builtin.min_, Builtin.min2, h0.v_inv, h1.v_inv]
theorem o_not {b : Bool} (hx : ev env X = .v (.bool b)) : OpD P C ⟨dst, .unOp .not t X, ty, pos, after, gu⟩ env H (.v (.bool !b)) H := by
  refine OpD.same fun K β ac w _ h _ => ?_
  have h0 := h X (by simp [Op.operands])
  rw [hx] at h0
  exact ⟨.bool !b, by simp [execOp, Op.unary, h0.v_inv], .v _ _, .v _⟩
/-- The remainder as Go reckons it, of a divisor above 0. -/
theorem o_tmod {a b : Int} (hx : ev env X = I64 a) (hy : ev env Y = I64 b) (h1 : 0 < b) : OpD P C ⟨dst, .binOp .rem t X Y t', ty, pos, after, gu⟩ env H (I64 (a.tmod b)) H :=
  o_bin (.int .i64 (a.tmod b)) hx hy (by
    have : binOp .rem t (.int .i64 a) (.int .i64 b) = if IntKind.i64 ≠ IntKind.i64 then stuck "BinOp: operands of different kinds" else Op.intDiv .rem .i64 a b := rfl
    rw [this, if_neg (by simp)]; unfold Op.intDiv; rw [if_neg (by omega)]; rfl)
end
/-! ### Functions as data -/
section
variable {P : Program} {C : Ctx} {env : Nat → D} {H : Heap} {dst : Option Nat} {ty t t' e : TypeId} {pos : String} {after : Array Edge} {gu : Option (Nat × Bool)} {X Y Z : Operand}
theorem o_makeFunc {f : FuncId} {caps : List Operand} : OpD P C ⟨dst, .makeFunc (.func f) #[] caps.toArray, ty, pos, after, gu⟩ env H (.fn (.func f) (caps.map (ev env))) H := by
  refine OpD.same fun K β ac w _ h hk => ?_
  have hmem : ∀ x ∈ caps, x ∈ (Op.makeFunc (.func f) #[] caps.toArray).operands := fun x hx => by simp [Op.operands]; exact hx
  refine ⟨.func (.func f) #[] (caps.map ac.eval).toArray, by simp [execOp, Instr.makeFunc], .fn _ _ _ _ (by simp) fun j u d hu hd => ?_, .fn _ _ fun c hc => ?_⟩
  · rw [List.getElem?_map] at hu hd
    cases hj : caps[j]? with
    | none => rw [hj] at hu; cases hu
    | some x =>
      rw [hj] at hu hd; simp at hu hd; subst hu hd
      exact h x (hmem x (List.mem_of_getElem? hj))
  · obtain ⟨x, hx, rfl⟩ := List.mem_map.1 hc
    exact hk x (hmem x hx)
def FrzL (H : Heap) : List D → List D → Prop
  | [], [] => True
  | c :: cs, d :: ds => Frz H c d ∧ FrzL H cs ds
  | _, _ => False
theorem FrzL.at {H : Heap} : ∀ {cs ds : List D}, FrzL H cs ds → cs.length = ds.length ∧ ∀ (j : Nat) c d, cs[j]? = some c → ds[j]? = some d → Frz H c d
  | [], [], _ => ⟨rfl, by simp⟩
  | c :: cs, d :: ds, h => by
    obtain ⟨h1, h2⟩ := h.2.at
    refine ⟨by simp [h1], fun j y z hy hz => ?_⟩
    rcases j with _ | j
    · simp at hy hz; subst hy hz; exact h.1
    · exact h2 j y z (by simpa using hy) (by simpa using hz)
  | [], _ :: _, h => h.elim
  | _ :: _, [], h => h.elim
theorem fnD_frz {X : Operand} {f : FuncId} {cs : List D} (h : ev env X = .fn (.func f) cs ∨ (ev env X = .v (.func (.func f) #[] #[]) ∧ cs = [])) {K : Mem} {β : Nat → Nat → BT} {v : Value} (hv : DR K β true v (ev env X)) : ∃ us : List Value, v = .func (.func f) #[] us.toArray ∧ us.length = cs.length ∧ ∀ (j : Nat) u d, us[j]? = some u → cs[j]? = some d → DR K β true u d := by
  rcases h with h | ⟨h, rfl⟩
  · rw [h] at hv; exact hv.fn_inv
  · rw [h] at hv; exact ⟨[], hv.v_inv, rfl, by simp⟩
/-- A call of a function that a slot holds, lent what the caller owns. -/
theorem o_callF {f : FuncId} {as : List Operand} {ats : Array TypeId} {cs ds ds' : List D} {d : D} (hx : ev env X = .fn (.func f) cs ∨ (ev env X = .v (.func (.func f) #[] #[]) ∧ cs = [])) (hc : Callee P f) (hf : Fun P f (ds ++ ds') (· = d)) (hz : FrzAll H env as ds) (hzc : FrzL H cs ds') (hs : Scal d) :
    OpD P C ⟨dst, .call { callee := .value X, args := as.toArray, argTypes := ats }, ty, pos, after, gu⟩ env H d H := by
  obtain ⟨hlen, hzz⟩ := hz.at
  obtain ⟨hlc, hzl⟩ := hzc.at
  refine ⟨HLe.refl _, fun K β a w Kc Q hw hxx hk hn => ?_⟩
  obtain ⟨us, eX, lu, du⟩ := fnD_frz hx (hxx X (by simp [Op.operands, Call.operands]))
  have hrun : (execOp a.eval ⟨dst, .call { callee := .value X, args := as.toArray, argTypes := ats }, ty, pos, after, gu⟩).run P w = .ok (.enter f (as.map a.eval ++ us).toArray) w := by
    simp [execOp, resolve, eX, Deferred.ofValue, invoke, hc.run]
  refine Ending_upon hrun (hf (K.all β H w) w (as.map a.eval ++ us) (by simp [hlen, lu, hlc]) (fun j v d' hv hd => ?_) hw.all_holds) fun e w'' ⟨v, d', K', h1, h2, h3, h4, h5, h6⟩ => ⟨v, h1, ?_⟩
  · by_cases hj : j < (as.map a.eval).length
    · rw [List.getElem?_append_left hj] at hv
      rw [List.getElem?_append_left (by rw [List.length_map, hlen] at hj; exact hj)] at hd
      rw [List.getElem?_map] at hv
      cases hj : as[j]? with
      | none => rw [hj] at hv; cases hv
      | some x =>
        rw [hj] at hv
        simp at hv
        subst hv
        have hm : x ∈ as := List.mem_of_getElem? hj
        exact (hw.frz (hzz j x d' hj hd) _ (hxx x (by simp [Op.operands, Call.operands, hm]))).pure rfl
    · rw [List.getElem?_append_right (by omega)] at hv
      rw [List.getElem?_append_right (by rw [List.length_map, hlen] at hj; omega)] at hd
      rw [List.length_map, hlen] at hv
      have hlt : j - ds.length < cs.length := by rw [hlc]; exact (List.getElem?_eq_some_iff.1 hd).1
      exact (hw.frz (hzl _ _ d' (List.getElem?_eq_getElem hlt) hd) _ (du _ v _ hv (List.getElem?_eq_getElem hlt))).pure rfl
  · subst h2
    have hws := hw.ext (Mem.le.refl K) (fun _ _ h => .inl h) (fun b c hb => h4 b c (h3.le b c (hw.all_old hb))) h6
    exact hn K β v w'' (KX.refl _ _) (Agr.refl _ _) hws (h5.scal hs) (hs.ok H)
end
theorem pure_agg {cs : List D} (h : cs.all isV = true) : Pure' (.agg cs) := .agg cs (allV h)
theorem Frz.i64 {H : Heap} {a b : Int} (h : a = b) : Frz H (I64 a) (I64 b) := by subst h; exact .v _
theorem Frz.cellAt {H : Heap} {id ver : Nat} {b : Blk} {x : Value} (hb : H[id]? = some (some b)) (hv : b.ver = ver) (hc : b.cs = [.v x]) : Frz H (.ptr id ver 0) (.adr [.v x]) := by
  subst hv
  refine .ptr id 0 b [.v x] hb (by rw [hc]; simp) fun j c d hc' hd => ?_
  rw [hc, Nat.zero_add] at hc'
  rw [hc'] at hd; cases hd
  rcases j with _ | j
  · simp at hc'; subst hc'; exact .v _
  · simp at hc'
/-- A struct or an array that lies in a block of the call's own, and a slot. -/
theorem Ends.cellTmp {P : Program} {fn : Func} {Q : D → Prop} {s : St} {t ty id ver off n u : Nat} {td : TypeDesc} {b : Blk} (hr : fn.results = #[.cell t ty, .tmp u]) (ht : s.env t = .ptr id ver off) (hu : P.underlying ty = some td) (hf : flat td = false) (hi : (P.info? ty).map (·.size) = some n)
    (hb : s.H[id]? = some (some b)) (hv : b.ver = ver) (hn : off + n ≤ b.cs.length) (d1 d2 : D) (hz : Frz s.H (.agg ((b.cs.drop off).take n)) d1) (hz2 : Frz s.H (s.env u) d2) (hq : Q (.tup [d1, d2])) : Ends P fn Q s := by
  subst hv
  intro C N K β a w hs
  have hp := hs.rd t
  rw [ht] at hp
  obtain ⟨e, hrl⟩ := hp.ptr_inv
  obtain ⟨us, rest, hh, hl, _, _, hd⟩ := hs.ws.real hb hrl
  obtain ⟨i, hi', hi2⟩ := Option.map_eq_some_iff.1 hi
  have hrun : (loadCells ⟨(β id b.ver).blk, off, none⟩ n).run P w = .ok ((us.drop off).take n).toArray w := by
    have := run_loadCells_list (P := P) w ⟨(β id b.ver).blk, off, none⟩ ((us.drop off).take n) fun j v hv => by
      rw [List.getElem?_take] at hv
      split at hv
      · rw [List.getElem?_drop] at hv
        rw [add_lit, cell_at hh, List.getElem?_append_left (List.getElem?_eq_some_iff.1 hv).1]; exact hv
      · cases hv
    rwa [List.length_take, List.length_drop, Nat.min_eq_left (by omega)] at this
  have hagg : DR K β true (.agg ((us.drop off).take n).toArray) (.agg ((b.cs.drop off).take n)) := .agg _ _ _ (by simp; omega) fun j u d hu hd' => by
    rw [List.getElem?_take] at hu hd'
    split at hu
    · rw [if_pos (by assumption)] at hd'
      rw [List.getElem?_drop] at hu hd'
      exact hd _ u d hu hd'
    · cases hu
  refine ⟨.tuple #[.agg ((us.drop off).take n).toArray, a.tmps.getD u undef], .tup [.agg ((b.cs.drop off).take n), s.env u], .tup [d1, d2], ?_, .tup _ [_, _] _ rfl fun j x d hx hd' => ?_, .tup _ _ rfl fun j c d hc hd' => ?_, hq⟩
  · have e' : (a.tmps[t]?).getD undef = .pointer (some ⟨(β id b.ver).blk, off, none⟩) := by rw [← e, Array.getD_eq_getD_getElem?]
    simp [results, hr, e', asAddr, loadVar, run_isAgg_deep hu hf, sizeOf, typeInfo, hi', hi2, hrun]
  · rcases j with _ | _ | j
    · simp at hx hd'; subst hx hd'; exact hagg
    · simp at hx hd'; subst hx hd'; rw [← Array.getD_eq_getD_getElem?]; exact hs.rd u
    · simp at hx
  · rcases j with _ | _ | j
    · simp at hc hd'; subst hc hd'; exact hz
    · simp at hc hd'; subst hc hd'; exact hz2
    · simp at hc
theorem Frz.agg2 {H : Heap} (a b : Value) : Frz H (.agg [.v a, .v b]) (.agg [.v a, .v b]) := Frz.aggv [a, b]
end Go.DL
