/-
  A logic of data for the walks, fourth part: new blocks, addresses, calls, appends. Plain lemmas over any program; no condition.
-/
import Derived.Test.YtpacdeiaimfiaaaDlC
import Derived.Maps.AppendAt
import Derived.Deep.OwnRows
set_option linter.unusedSimpArgs false
set_option linter.unusedVariables false
namespace Go.DL
open Go.RowKit

theorem add_add (a : Addr) (i j : Nat) : (a.add i).add j = a.add (i + j) := by
  unfold Addr.add
  by_cases hi : i = 0 <;> by_cases hj : j = 0 <;> simp [hi, hj, Nat.add_assoc]
section
variable {P : Program} {C : Ctx} {env : Nat → D} {H : Heap} {dst : Option Nat} {ty : TypeId} {pos : String} {after : Array Edge} {gu : Option (Nat × Bool)} {x y z : Operand} {t e : TypeId} {td : TypeDesc}
/-- An operation that makes one new block. -/
theorem OpD.new {o : Oper} {d : D} (b : Blk) (hok : OkD (H ++ [some b]) d)
    (h : ∀ K β (a : Act) (w : World), WS C K β H w → (∀ x ∈ o.op.operands, DR K β true (a.eval x) (ev env x)) → (∀ x ∈ o.op.operands, OkD H (ev env x)) →
      ∃ (us : List Value) (v : Value), (execOp a.eval o).run P w = .ok (.value v) (w.alloc (.cells us.toArray b.e)) ∧ us.length = b.cs.length ∧ (∀ (j : Nat) u d, us[j]? = some u → b.cs[j]? = some d → DR K β true u d) ∧ (∀ c ∈ b.cs, OkD H c) ∧
        (∀ β' : Nat → Nat → BT, β' H.length b.ver = ⟨w.heap.size, us.length, .cells⟩ → DR K β' true v d)) : OpD P C o env H d (H ++ [some b]) :=
  OpD.of (HLe.app _ _) fun K β a w hw hx hk => by
    obtain ⟨us, v, hr, h1, h2, h3, h4⟩ := h K β a w hw hx hk
    have hn := hw.new us [] b h1 (fun _ => rfl) h2 h3
    rw [List.append_nil] at hn
    exact ⟨K, _, v, _, hr, KX.refl _ _, addB_agr, hn, h4 _ addB_at, hok⟩
/-- A new variable, zero. -/
theorem o_alloc {zv : Value} {cs : List D} (hz : (P.info? e).map (·.zero) = some (some zv)) (hcs : zv.cells.toList.map D.v = cs) : OpD P C ⟨dst, .alloc e, ty, pos, after, gu⟩ env H (.ptr H.length 0 0) (H ++ [some ⟨cs, e, false, 0⟩]) := by
  subst hcs
  obtain ⟨i, hi, hi2⟩ := Option.map_eq_some_iff.1 hz
  refine OpD.new _ (.ptr _ _ _ (okV_new _ _)) fun K β a w hw _ _ => ⟨zv.cells.toList, .pointer (some ⟨w.heap.size, 0, none⟩), ?_, by simp, fun j u d hu hd => ?_, fun c hc => ?_, fun β' hβ => ?_⟩
  · simp [execOp, Instr.alloc, zeroValue, typeInfo, hi, hi2, newVar, newRow]
  · simp only at hd
    rw [List.getElem?_map, hu] at hd; simp at hd; subst hd; exact .v _ _
  · obtain ⟨u, _, rfl⟩ := List.mem_map.1 hc; exact .v _
  · have := DR.ptr (K := K) (β := β') H.length 0 0 (by rw [hβ])
    rw [hβ] at this; exact this
/-- A new variable that holds a value. -/
theorem o_box {d : D} (hx : ev env x = d) (h1 : (cellsD d).all oneD = true) : OpD P C ⟨dst, .box e x, ty, pos, after, gu⟩ env H (.ptr H.length 0 0) (H ++ [some ⟨cellsD d, e, false, 0⟩]) := by
  refine OpD.new _ (.ptr _ _ _ (okV_new _ _)) fun K β a w hw hx' hk => ?_
  have hv := hx' x (by simp [Op.operands])
  have hkx := hk x (by simp [Op.operands])
  rw [hx] at hv hkx
  obtain ⟨c1, c2, c3⟩ := cellsD.val hv h1
  refine ⟨(a.eval x).cells.toList, .pointer (some ⟨w.heap.size, 0, none⟩), ?_, by simpa using c1, c2, fun c hc => ?_, fun β' hβ => ?_⟩
  · simp [execOp, Instr.box, newVar, newRow]
  · cases d <;> first
      | (simp [cellsD] at hc; subst hc; exact hkx)
      | (cases hkx with | agg _ h => exact h c hc)
  · have := DR.ptr (K := K) (β := β') H.length 0 0 (by rw [hβ])
    rw [hβ] at this; exact this
/-- The address of an element of an array of the call's own. -/
theorem o_ix_arr {id ver off len sz : Nat} {k : IntKind} {i : Int} (hx : ev env x = .ptr id ver off) (hy : ev env y = .v (.int k i)) (ht : P.underlying t = some (.array len e)) (hi : (P.info? e).map (·.size) = some sz) (h0 : 0 ≤ i) (hlt : i < len) :
    OpD P C ⟨dst, .indexAddr t x y, ty, pos, after, gu⟩ env H (.ptr id ver (off + i.toNat * sz)) H := by
  refine OpD.same fun K β a w hw hx' hk => ?_
  have h := hx' x (by simp [Op.operands])
  have h2 := hx' y (by simp [Op.operands])
  have hkx := hk x (by simp [Op.operands])
  rw [hx] at h hkx
  rw [hy] at h2
  obtain ⟨e1, hr⟩ := h.ptr_inv
  obtain ⟨inf, hi', hi2⟩ := Option.map_eq_some_iff.1 hi
  refine ⟨_, ?_, DR.ptr id ver _ hr, ?_⟩
  · simp [execOp, Instr.indexAt, h2.v_inv, asIntOf, run_underlying ht, e1, Instr.sureAddr, h0, hlt, sizeOf, typeInfo, hi', hi2, add_lit]
  · cases hkx with | ptr _ _ _ h => exact .ptr _ _ _ h
/-- The address of an element of a slice that stays. -/
theorem o_ix_rd {n sz : Nat} {cs : List D} {k : IntKind} {i : Int} (hx : ev env x = .rd n cs) (hy : ev env y = .v (.int k i)) (ht : P.underlying t = some (.slice e)) (hi : (P.info? e).map (·.size) = some sz) (h0 : 0 ≤ i) (hlt : i < n) (hcs : i.toNat * sz < cs.length) :
    OpD P C ⟨dst, .indexAddr t x y, ty, pos, after, gu⟩ env H (.adr (cs.drop (i.toNat * sz))) H := by
  refine OpD.same fun K β a w hw hx' hk => ?_
  have h := hx' x (by simp [Op.operands])
  have h2 := hx' y (by simp [Op.operands])
  rw [hx] at h
  rw [hy] at h2
  obtain ⟨A, c, us, e1, hn, hl, hc, hd⟩ := h.rd_inv
  obtain ⟨inf, hi', hi2⟩ := Option.map_eq_some_iff.1 hi
  obtain ⟨ad, rfl, _⟩ := hc 0 _ (List.getElem?_eq_getElem (by omega))
  refine ⟨.pointer (some (ad.add (i.toNat * sz))), ?_, .adr _ _ (us.drop (i.toNat * sz)) _ (by simp [hl]) (fun j u hu => ?_) (fun j u d hu hd' => ?_), .adr _⟩
  · simp [execOp, Instr.indexAt, h2.v_inv, asIntOf, run_underlying ht, e1, h0, hlt, sizeOf, typeInfo, hi', hi2]
  · rw [List.getElem?_drop] at hu
    obtain ⟨ad', e2, hk'⟩ := hc _ u hu
    simp at e2; subst e2
    rw [add_add]; exact hk'
  · rw [List.getElem?_drop] at hu hd'
    exact hd _ u d hu hd'
/-- The address of an element of a slice of the call's own. -/
theorem o_ix_own {id ver off n sz sz' : Nat} {k : IntKind} {i : Int} (hx : ev env x = .own id ver off n sz') (hy : ev env y = .v (.int k i)) (ht : P.underlying t = some (.slice e)) (hi : (P.info? e).map (·.size) = some sz) (h0 : 0 ≤ i) (hlt : i < n) :
    OpD P C ⟨dst, .indexAddr t x y, ty, pos, after, gu⟩ env H (.ptr id ver (off + i.toNat * sz)) H := by
  refine OpD.same fun K β a w hw hx' hk => ?_
  have h := hx' x (by simp [Op.operands])
  have h2 := hx' y (by simp [Op.operands])
  have hkx := hk x (by simp [Op.operands])
  rw [hx] at h hkx
  rw [hy] at h2
  obtain ⟨inf, hi', hi2⟩ := Option.map_eq_some_iff.1 hi
  rcases h.own_inv with ⟨c, e1, _, _, _, hr⟩ | ⟨_, _, hn0, _⟩
  · refine ⟨_, ?_, DR.ptr id ver _ hr, ?_⟩
    · simp [execOp, Instr.indexAt, h2.v_inv, asIntOf, run_underlying ht, e1, h0, hlt, sizeOf, typeInfo, hi', hi2, add_lit]
    · cases hkx with | own _ _ _ _ _ h => exact .ptr _ _ _ h
  · subst hn0; simp at hlt; omega
/-- The address of a field. -/
theorem o_fld_ptr {id ver off n sz : Nat} {fs : Array Field} {fl : Field} (hx : ev env x = .ptr id ver off) (ht : P.underlying t = some (.struct fs)) (hf : fs[n]? = some fl) (hi : (P.info? fl.type).map (·.size) = some sz) (hz : sz ≠ 0) :
    OpD P C ⟨dst, .fieldAddr t x n, ty, pos, after, gu⟩ env H (.ptr id ver (off + fl.offset)) H := by
  refine OpD.same fun K β a w hw hx' hk => ?_
  have h := hx' x (by simp [Op.operands])
  have hkx := hk x (by simp [Op.operands])
  rw [hx] at h hkx
  obtain ⟨e1, hr⟩ := h.ptr_inv
  obtain ⟨inf, hi', hi2⟩ := Option.map_eq_some_iff.1 hi
  refine ⟨_, ?_, DR.ptr id ver _ hr, ?_⟩
  · simp [execOp, Instr.fieldAt, run_underlying ht, hf, e1, Instr.sureAddr, fieldPlace, sizeOf, typeInfo, hi', hi2, hz, add_lit]
  · cases hkx with | ptr _ _ _ h => exact .ptr _ _ _ h
theorem o_fld_adr {n sz : Nat} {cs : List D} {fs : Array Field} {fl : Field} (hx : ev env x = .adr cs) (ht : P.underlying t = some (.struct fs)) (hf : fs[n]? = some fl) (hi : (P.info? fl.type).map (·.size) = some sz) (hz : sz ≠ 0) :
    OpD P C ⟨dst, .fieldAddr t x n, ty, pos, after, gu⟩ env H (.adr (cs.drop fl.offset)) H := by
  refine OpD.same fun K β a w hw hx' hk => ?_
  have h := hx' x (by simp [Op.operands])
  rw [hx] at h
  obtain ⟨ad, us, e1, hl, hc, hd⟩ := h.adr_inv
  obtain ⟨inf, hi', hi2⟩ := Option.map_eq_some_iff.1 hi
  refine ⟨.pointer (some (ad.add fl.offset)), ?_, .adr _ _ (us.drop fl.offset) _ (by simp [hl]) (fun j u hu => ?_) (fun j u d hu hd' => ?_), .adr _⟩
  · simp [execOp, Instr.fieldAt, run_underlying ht, hf, e1, Instr.sureAddr, fieldPlace, sizeOf, typeInfo, hi', hi2, hz]
  · rw [List.getElem?_drop] at hu
    rw [add_add]; exact hc _ u hu
  · rw [List.getElem?_drop] at hu hd'
    exact hd _ u d hu hd'
/-- A slice made, of elements of one cell. -/
theorem o_make {zv : Value} {bytes : Nat} {kl kc : IntKind} {l c : Int} (ln cn : Nat) (hx : ev env x = .v (.int kl l)) (hy : ev env y = .v (.int kc c)) (ht : P.underlying t = some (.slice e)) (hi : (P.info? e).map (fun i => (i.zero, i.size, i.bytes)) = some (some zv, 1, bytes)) (hz : zv.cells = #[zv])
    (hl : l = ln) (hc : c = cn) (hlc : ln ≤ cn) (hb : bytes * cn ≤ 281474976710656) (hm : cn ≤ 9223372036854775807) :
    OpD P C ⟨dst, .makeSlice t x y, ty, pos, after, gu⟩ env H (.own H.length 0 0 ln 1) (H ++ [some ⟨List.replicate cn (.v zv), e, false, 0⟩]) := by
  subst hl hc
  obtain ⟨i, hi1, hi2, hi3, hi4⟩ := info_parts hi
  refine OpD.new _ (.own _ _ _ _ _ (okV_new _ _)) fun K β a w hw hx' _ => ?_
  have h1 := hx' x (by simp [Op.operands])
  have h2 := hx' y (by simp [Op.operands])
  rw [hx] at h1
  rw [hy] at h2
  have hrun := run_make (P := P) w t e i zv ht hi1 hi2 kl kc ln cn (by omega) (by omega) (by rw [hi4, ← Int.natCast_mul]; omega) (by omega)
  have hmc : madeCells zv.cells ((cn : Int).toNat * i.size) = (List.replicate cn zv).toArray := by
    rw [hi3, hz]; unfold madeCells
    apply Array.ext'
    simp
    apply List.ext_getElem?
    intro j
    by_cases hj : j < cn
    · simp [hj, Nat.mod_one]
    · simp [hj]
  rw [hmc] at hrun
  refine ⟨List.replicate cn zv, .slice (some ⟨w.heap.size, 0, none⟩) ln cn, ?_, by simp, fun j u d hu hd => ?_, fun c hc => ?_, fun β' hβ => ?_⟩
  · simp only [execOp, h1.v_inv, h2.v_inv, Sem.run_bind, hrun, Result.andThen_ok, Sem.run_pure, Int.toNat_natCast]
  · simp only at hd
    rw [List.getElem?_replicate] at hu hd
    split at hu
    · rw [if_pos (by assumption)] at hd; simp at hu hd; subst hu hd; exact .v _ _
    · cases hu
  · obtain ⟨_, rfl⟩ := List.mem_replicate.1 hc; exact .v _
  · have := DR.own (K := K) (β := β') H.length 0 0 ln 1 cn hlc (by unfold maxLen; omega) (by rw [hβ]; simp) (by rw [hβ])
    rw [hβ] at this; exact this
end

/-! ### Calls -/
/-- A datum that names no block of the call's own. -/
inductive Pure' : D → Prop
  | any : Pure' .any
  | v (x) : Pure' (.v x)
  | rd (n cs) : Pure' (.rd n cs)
  | adr (cs) : Pure' (.adr cs)
  | agg (cs : List D) (h : ∀ c ∈ cs, Pure' c) : Pure' (.agg cs)
  | tup (cs : List D) (h : ∀ c ∈ cs, Pure' c) : Pure' (.tup cs)
  | fn (f : Fn) (cs : List D) (h : ∀ c ∈ cs, Pure' c) : Pure' (.fn f cs)
  | iface (t : TypeId) (d : D) (h : Pure' d) : Pure' (.iface t d)
  | mp (ks cs) : Pure' (.mp ks cs)
theorem DR.down {K : Mem} {β : Nat → Nat → BT} {m : Bool} {x : Value} {d : D} (h : DR K β m x d) (hp : Pure' d) : DR K β false x d := by
  induction h with
  | any m x => exact .any _ _
  | v m x => exact .v _ _
  | agg m us cs hl _ ih => 
    cases hp with
    | agg _ hp => exact .agg _ us cs hl fun j u d hu hd => ih j u d hu hd (hp d (List.mem_of_getElem? hd))
  | tup m us cs hl _ ih =>
    cases hp with
    | tup _ hp => exact .tup _ us cs hl fun j u d hu hd => ih j u d hu hd (hp d (List.mem_of_getElem? hd))
  | fn m f us cs hl _ ih =>
    cases hp with
    | fn _ _ hp => exact .fn _ f us cs hl fun j u d hu hd => ih j u d hu hd (hp d (List.mem_of_getElem? hd))
  | iface m t u d _ ih =>
    cases hp with
    | iface _ _ hp => exact .iface _ t u d (ih hp)
  | mp m r es ck ks cs hk hl hc hd ih => exact .mp _ r es ck ks cs hk hl hc hd
  | rd m A n c us cs hn hl hc hd ih => exact .rd _ A n c us cs hn hl hc hd
  | adr m ad us cs hl hc hd ih => exact .adr _ ad us cs hl hc hd
  | own => cases hp
  | own0 => cases hp
  | ptr => cases hp
  | omp => cases hp
def PureAll : List D → Prop
  | [] => True
  | d :: ds => Pure' d ∧ PureAll ds
theorem PureAll.at : ∀ {ds : List D}, PureAll ds → ∀ d ∈ ds, Pure' d
  | [], _, d, hd => by cases hd
  | x :: ds, h, d, hd => by
    rcases List.mem_cons.1 hd with rfl | hd
    · exact h.1
    · exact h.2.at d hd
/-- A function with a Go body: what a call needs to know of it. -/
structure Callee (P : Program) (f : FuncId) : Prop where
  ex : ∃ fn, P.funcs[f]? = some fn ∧ (fn.name == "runtime.NumGoroutine") = false ∧ fn.body.isNone = false
theorem Callee.of {P : Program} {f : FuncId} {fn : Func} (h : P.funcs[f]? = some fn) (h1 : (fn.name == "runtime.NumGoroutine") = false) (h2 : fn.body.isNone = false) : Callee P f := ⟨fn, h, h1, h2⟩
theorem Callee.run {P : Program} {f : FuncId} (h : Callee P f) (args : Array Value) (w : World) : (callFunc f args).run P w = .ok (.enter f args) w := by
  obtain ⟨fn, h0, h1, h2⟩ := h.ex
  have h1' : ¬ fn.name = "runtime.NumGoroutine" := by simpa using h1
  have h2' : ¬ fn.body = none := by intro e; rw [e] at h2; simp at h2
  simp [callFunc, program, Sem.run, h0, h1', h2']
theorem Ending_upon {C : Ctx} {P : Program} {o : Oper} {a : Act} {Kc : Act → World → Prop} {Q : Exit → Act → World → Prop} {f : FuncId} {args : Array Value} {w w' : World} {R : Ending → World → Prop} (hr : (execOp a.eval o).run P w = .ok (.enter f args) w') (h : Calls P f args w' R)
    (hR : ∀ e w'', R e w'' → ∃ v, e = .returned v ∧ Kc (a.put o.dst v) w'') : o.wpIn (FW C.rd) 0 P a w Kc Q := by
  refine wpIn_FW (defer_run hr (fun d h => by cases h)) ?_
  rw [hr]
  show Calls P f args w' _
  refine h.mono fun e w'' he => ?_
  obtain ⟨v, rfl, hk⟩ := hR e w'' he
  exact hk
section
variable {P : Program} {C : Ctx} {env : Nat → D} {H : Heap} {dst : Option Nat} {ty : TypeId} {pos : String} {after : Array Edge} {gu : Option (Nat × Bool)} {x y z : Operand} {t e : TypeId} {td : TypeDesc}
/-- The same datum; or nil, where a slice is wanted. -/
def ArgIs (d d' : D) : Prop := d = d' ∨ (d = .v (.slice none 0 0) ∧ d' = .rd 0 [])
def ArgsAre (env : Nat → D) : List Operand → List D → Prop
  | [], [] => True
  | x :: xs, d :: ds => ArgIs (ev env x) d ∧ ArgsAre env xs ds
  | _, _ => False
theorem ArgsAre.at {env : Nat → D} : ∀ {xs : List Operand} {ds : List D}, ArgsAre env xs ds → xs.length = ds.length ∧ ∀ (j : Nat) x d, xs[j]? = some x → ds[j]? = some d → ArgIs (ev env x) d
  | [], [], _ => ⟨rfl, by simp⟩
  | x :: xs, d :: ds, h => by
    obtain ⟨h1, h2⟩ := h.2.at
    refine ⟨by simp [h1], fun j y c hy hc => ?_⟩
    rcases j with _ | j
    · simp at hy hc; subst hy hc; exact h.1
    · exact h2 j y c (by simpa using hy) (by simpa using hc)
  | [], _ :: _, h => h.elim
  | _ :: _, [], h => h.elim
theorem DR.arg {K : Mem} {β : Nat → Nat → BT} {m : Bool} {v : Value} {d d' : D} (h : DR K β m v d) (ha : ArgIs d d') : DR K β m v d' := by
  rcases ha with rfl | ⟨rfl, rfl⟩
  · exact h
  · rw [h.v_inv]; exact .rd _ none 0 0 [] [] (Nat.le_refl _) rfl (by simp) (by simp)
/-- A call of a function of data. -/
theorem o_call {f : FuncId} {as : List Operand} {ats : Array TypeId} {ds : List D} {d : D} (hc : Callee P f) (hf : Fun P f ds (· = d)) (he : ArgsAre env as ds) (hpa : PureAll ds) :
    OpD P C ⟨dst, .call { callee := .value (.func f), args := as.toArray, argTypes := ats }, ty, pos, after, gu⟩ env H d H := by
  have hp := hpa.at
  obtain ⟨hlen, hz⟩ := he.at
  refine ⟨HLe.refl _, fun K β a w Kc Q hw hx hk hn => ?_⟩
  have hrun : (execOp a.eval ⟨dst, .call { callee := .value (.func f), args := as.toArray, argTypes := ats }, ty, pos, after, gu⟩).run P w = .ok (.enter f (as.map a.eval).toArray) w := by
    simp [execOp, resolve, Act.eval, Deferred.ofValue, invoke, hc.run]
  refine Ending_upon hrun (hf K w (as.map a.eval) (by simp [hlen]) (fun j v d' hv hd => ?_) hw.holds) fun e w'' ⟨v, d', K', h1, h2, h3, h4, h5, h6⟩ => ⟨v, h1, ?_⟩
  · rw [List.getElem?_map] at hv
    cases hj : as[j]? with
    | none => rw [hj] at hv; cases hv
    | some x =>
      rw [hj] at hv
      simp at hv
      subst hv
      have hm : x ∈ as := List.mem_of_getElem? hj
      have := (hx x (by simp [Op.operands, Call.operands, hm])).arg (hz j x d' hj hd)
      exact (this.down (hp _ (List.mem_of_getElem? hd))).pure rfl
  · subst h2
    have hws := hw.ext h3.le (fun b c hb => (h3.new b c hb).imp id fun h => h.elim id False.elim) h4 h6
    exact hn K' β v w'' (h3.mono (bare_owns hw.size)) (Agr.refl _ _) hws ((h5.pure rfl).up rfl) (h5.okp rfl)
end
end Go.DL
