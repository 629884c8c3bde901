/-
  A logic of data for the walks: rows of the call's own that are just as long as told, copies, strings, numbers of 8 and 64 bits, tables. Plain lemmas over any program; no condition.
-/
import Derived.Test.YtpacdeiaimfiaaaDlM
import Derived.Laws.MakeOwn
import Derived.Laws.CopyRow
import Derived.Laws.Bits64
set_option linter.unusedSimpArgs false
set_option linter.unusedVariables false
namespace Go.DL
open Go.RowKit

section
variable {P : Program} {C : Ctx} {env : Nat → D} {H H' : Heap} {dst : Option Nat} {ty t t' e : TypeId} {pos : String} {after : Array Edge} {gu : Option (Nat × Bool)} {X Y Z : Operand}

/-! ### Rows that are just as long as told: version and length are one number -/
abbrev tb (e : TypeId) (n : Nat) (cs : List D) : Option Blk := some ⟨cs, e, true, n⟩
abbrev ow (id n sz : Nat) : D := .own id n 0 n sz
theorem OpD.newR {o : Oper} {d : D} (b : Blk) (hg : b.grow = true) (hok : OkD (H ++ [some b]) d)
    (h : ∀ K β (a : Act) (w : World), WS C K β H w → (∀ x ∈ o.op.operands, DR K β true (a.eval x) (ev env x)) → (∀ x ∈ o.op.operands, OkD H (ev env x)) →
      ∃ (us rest : List Value) (v : Value), (execOp a.eval o).run P w = .ok (.value v) (w.alloc (.cells (us ++ rest).toArray b.e)) ∧ us.length = b.cs.length ∧ (∀ (j : Nat) u d, us[j]? = some u → b.cs[j]? = some d → DR K β true u d) ∧ (∀ c ∈ b.cs, OkD H c) ∧
        (∀ β' : Nat → Nat → BT, β' H.length b.ver = ⟨w.heap.size, us.length + rest.length, .cells⟩ → DR K β' true v d)) : OpD P C o env H d (H ++ [some b]) :=
  OpD.of (HLe.app _ _) fun K β a w hw hx hk => by
    obtain ⟨us, rest, v, hr, h1, h2, h3, h4⟩ := h K β a w hw hx hk
    exact ⟨K, _, v, _, hr, KX.refl _ _, addB_agr, hw.new us rest b h1 (fun h => by rw [hg] at h; cases h) h2 h3, h4 _ addB_at, hok⟩
theorem mod_bang {α : Type} [Inhabited α] (z : Array α) (hz : 0 < z.size) (j : Nat) (u : α) : z[j % z.size]! = z.toList.getD (j % z.size) u := by
  have h : j % z.size < z.size := Nat.mod_lt _ hz
  rw [getElem!_pos z _ h, List.getD_eq_getElem?_getD, Array.getElem?_toList, Array.getElem?_eq_getElem h]; rfl
/-- A slice made: so many zero elements; more may lie behind. -/
theorem o_makeT {zv : Value} {sz bytes : Nat} {kl kc : IntKind} {l c : Int} (ver ln cn : Nat) (hx : ev env X = .v (.int kl l)) (hy : ev env Y = .v (.int kc c)) (ht : P.underlying t = some (.slice e)) (hi : (P.info? e).map (fun i => (i.zero, i.size, i.bytes)) = some (some zv, sz, bytes)) (hz : zv.cells.size = sz) (hp : Nat.blt 0 sz = true)
    (hl : l = ln) (hc : c = cn) (hlc : ln ≤ cn) (hb : bytes * cn ≤ 281474976710656) (hm : cn ≤ 9223372036854775807) :
    OpD P C ⟨dst, .makeSlice t X Y, ty, pos, after, gu⟩ env H (.own H.length ver 0 ln sz) (H ++ [some ⟨(zeros zv (ln * sz) sz).map D.v, e, true, ver⟩]) := by
  have hp : 0 < sz := by simpa [Nat.blt_eq] using hp
  subst hl hc
  obtain ⟨i, h1, h2, h3, h4⟩ := info_parts hi
  refine OpD.newR _ rfl (.own _ _ _ _ _ (okV_new _ _)) fun K β a w hw h hk => ?_
  have e1 := h X (by simp [Op.operands])
  have e2 := h Y (by simp [Op.operands])
  rw [hx] at e1; rw [hy] at e2
  have hb' : (i.bytes : Int) * (cn : Int) ≤ 281474976710656 := by
    have h : ((i.bytes * cn : Nat) : Int) ≤ 281474976710656 := by rw [h4]; omega
    rwa [Int.natCast_mul] at h
  have hrun := run_make (P := P) w t e i zv ht h1 h2 kl kc ln cn (by omega) (by omega) hb' (by omega)
  rw [h3] at hrun
  have hsplit : (madeCells zv.cells (cn * sz)).toList = zeros zv (ln * sz) sz ++ (madeCells zv.cells (cn * sz)).toList.drop (ln * sz) := by
    conv => lhs; rw [← List.take_append_drop (ln * sz) (madeCells zv.cells (cn * sz)).toList]
    congr 1
    have hle : ln * sz ≤ cn * sz := Nat.mul_le_mul_right _ hlc
    apply List.ext_getElem?
    intro j
    unfold madeCells zeros
    by_cases hj : j < ln * sz
    · rw [List.getElem?_take, if_pos hj, Array.toList_map, List.getElem?_map, List.getElem?_map, Array.toList_range, List.getElem?_range (by omega), List.getElem?_range hj]
      simp only [Option.map_some]
      rw [mod_bang zv.cells (by omega) j undef, hz]
    · rw [List.getElem?_take, if_neg hj, List.getElem?_eq_none (by simp; omega)]
  have hcells : madeCells zv.cells (cn * sz) = (zeros zv (ln * sz) sz ++ (madeCells zv.cells (cn * sz)).toList.drop (ln * sz)).toArray := by rw [← hsplit]
  simp only [Int.toNat_natCast] at hrun
  rw [hcells] at hrun
  refine ⟨zeros zv (ln * sz) sz, (madeCells zv.cells (cn * sz)).toList.drop (ln * sz), .slice (some ⟨w.heap.size, 0, none⟩) ln cn, ?_, by simp, zeros_dr _, fun d hd => by obtain ⟨u, _, rfl⟩ := List.mem_map.1 hd; exact .v _, fun β' hβ => ?_⟩
  · simp only [execOp, e1.v_inv, e2.v_inv, Sem.run_bind, hrun, Result.andThen_ok, Sem.run_pure]
  · have hlen : (zeros zv (ln * sz) sz ++ (madeCells zv.cells (cn * sz)).toList.drop (ln * sz)).length = cn * sz := by rw [← hsplit]; simp [size_madeCells]
    have hr := DR.own (K := K) (β := β') H.length ver 0 ln sz cn hlc hm (by rw [hβ]; rw [List.length_append] at hlen; simp only; omega) (by rw [hβ])
    rwa [hβ] at hr
theorem zeros_one (zv : Value) (hz : zv.cells = #[zv]) (n : Nat) : zeros zv (n * 1) 1 = List.replicate n zv := by
  unfold zeros
  rw [Nat.mul_one]
  apply List.ext_getElem?
  intro j
  by_cases hj : j < n
  · rw [List.getElem?_map, List.getElem?_range hj, List.getElem?_replicate, if_pos hj, hz]; simp [Nat.mod_one]
  · rw [List.getElem?_eq_none (by simp; omega), List.getElem?_eq_none (by simp; omega)]
/-- A row of the call's own that is nil as yet. -/
theorem o_nil (e sz : Nat) : OpD P C ⟨dst, .assign (.const (.slice none 0 0)), ty, pos, after, gu⟩ env H (ow H.length 0 sz) (H ++ [tb e 0 []]) := by
  refine OpD.of (HLe.app _ _) fun K β a w hw _ _ => ⟨K, _, .slice none 0 0, w, rfl, KX.refl _ _, addB_agr, hw.newNil e, .own0 _ _ _ (by rw [addB_at]), .own _ _ _ _ _ (okV_new _ _)⟩
theorem o_nilM (e sz : Nat) : OpD P C ⟨dst, .move (.const (.slice none 0 0)), ty, pos, after, gu⟩ env H (ow H.length 0 sz) (H ++ [tb e 0 []]) := by
  refine OpD.of (HLe.app _ _) fun K β a w hw _ _ => ⟨K, _, .slice none 0 0, w, rfl, KX.refl _ _, addB_agr, hw.newNil e, .own0 _ _ _ (by rw [addB_at]), .own _ _ _ _ _ (okV_new _ _)⟩
/-- A slice written out, of the call's own, with a version of one's choice. -/
theorem o_litV {zv : Value} {sz len bytes : Nat} {ps : List (Nat × Operand)} {cs : List D} (ver : Nat) (ht : P.underlying t = some (.slice e)) (hi : (P.info? e).map (fun i => (i.zero, i.size, i.bytes)) = some (some zv, sz, bytes)) (hz : zv.cells.size = sz) (hlen : Nat.ble (len * sz) 16777216 = true) (hm : Nat.ble len 9223372036854775807 = true)
    (hp : litOK env sz (len * sz) ps = true) (hcs : ps.foldl (fun c p => spl c (p.1 * sz) (cellsD (ev env p.2))) ((zeros zv (len * sz) sz).map D.v) = cs) (hl : cs.length = len * sz) :
    OpD P C ⟨dst, .buildSlice t len ps.toArray, ty, pos, after, gu⟩ env H (.own H.length ver 0 len sz) (H ++ [some ⟨cs, e, true, ver⟩]) := by
  have hp := litOK.at hp
  have hlen := Nat.le_of_ble_eq_true hlen
  have hm := Nat.le_of_ble_eq_true hm
  subst hcs
  refine OpD.new _ (.own _ _ _ _ _ (okV_new _ _)) fun K β a w hw h hk => ?_
  have hmem : ∀ p ∈ ps, p.2 ∈ (Op.buildSlice t len ps.toArray).operands := fun p hp => by simp [Op.operands]; exact ⟨p.1, hp⟩
  have hcore := lit_core (H := H) (env := env) (a := a) (K := K) (β := β) sz ps (zeros zv (len * sz) sz) ((zeros zv (len * sz) sz).map D.v) (by simp) (zeros_dr _) (fun d hd => by obtain ⟨u, _, rfl⟩ := List.mem_map.1 hd; exact .v _) (fun p hp' => by
    obtain ⟨g1, g2, g3⟩ := hp p hp'
    exact ⟨g1, g2, by simpa [zeros] using g3, h _ (hmem p hp'), hk _ (hmem p hp')⟩)
  obtain ⟨k1, k2, k3⟩ := hcore
  have hrun := run_lit (P := P) (w := w) (ps.map fun p => (p.1, a.eval p.2)) ht hi hz hlen (fun p hp' => by
    obtain ⟨q, hq, rfl⟩ := List.mem_map.1 hp'
    obtain ⟨g1, g2, g3⟩ := hp q hq
    obtain ⟨c1, _, _⟩ := cellsD.val (h _ (hmem q hq)) g1
    exact ⟨by rw [c1]; exact g2, g3⟩)
  have hfold : (ps.map fun p => (p.1, a.eval p.2)).foldl (fun c p => spl c (p.1 * sz) p.2.cells.toList) (zeros zv (len * sz) sz) = ps.foldl (fun c p => spl c (p.1 * sz) (a.eval p.2).cells.toList) (zeros zv (len * sz) sz) := by
    rw [List.foldl_map]
  rw [hfold] at hrun
  refine ⟨_, .slice (some ⟨w.heap.size, 0, none⟩) len len, ?_, k1, k2, k3, fun β' hβ => ?_⟩
  · simp only [execOp, Sem.run_bind, List.map_toArray, hrun, Result.andThen_ok, Sem.run_pure]
  · have := DR.own (K := K) (β := β') H.length ver 0 len sz len (Nat.le_refl _) hm (by rw [hβ]; simp; rw [k1, hl]) (by rw [hβ])
    rwa [hβ] at this

theorem append_nothing {K : Mem} {β : Nat → Nat → BT} {w : World} {id ver off n sz bytes : Nat} (E : Elem P t e sz bytes) {v : Value} (hv : DR K β true v (.own id ver off n sz)) (A : Option Addr) (c : Nat) : (Builtin.append_ #[t, t] ty #[v, .slice A 0 c]).run P w = .ok v w := by
  obtain ⟨i, z, hi, hz, hsz, hbs, hzs⟩ := E.inf
  obtain ⟨A', c', rfl, hc⟩ := hv.own_len
  cases A with
  | none => cases A' <;> simp [Builtin.append_, run_underlying E.ut, sizeOf, typeInfo, hi, Builtin.lenOf, Builtin.firstCells, hc, storeCells]
  | some ad => cases A' <;> simp [Builtin.append_, run_underlying E.ut, sizeOf, typeInfo, hi, Builtin.lenOf, Builtin.firstCells, hc, storeCells, loadCells, loadCellsFrom]
/-- An append onto a row that is just as long as told. -/
theorem o_appT {id n sz bytes m : Nat} {cs cs' : List D} (E : Elem P t e sz bytes) (hx : ev env X = ow id n sz) (hy : ev env Y = .rd m cs') (hb : H[id]? = some (tb e n cs)) (hn : cs.length = n * sz) (hm : cs'.length = m * sz) (h1 : ∀ d ∈ cs', oneD d = true)
    (h63 : n + m ≤ 9223372036854775807) (hby : (n + m) * bytes ≤ 140737488355328) :
    OpD P C ⟨dst, .call { callee := .builtin .append, args := #[X, Y], argTypes := #[t, t] }, ty, pos, after, gu⟩ env H (ow id (n + m) sz) (H.set id (tb e (n + m) (cs ++ cs'))) := by
  cases m with
  | zero =>
    have h0 : cs' = [] := List.eq_nil_of_length_eq_zero (by simpa using hm)
    subst h0
    have hid : id < H.length := (List.getElem?_eq_some_iff.1 hb).1
    have hH : H.set id (tb e (n + 0) (cs ++ [])) = H := by
      rw [List.append_nil, Nat.add_zero]
      apply List.ext_getElem?
      intro j
      rw [List.getElem?_set]
      by_cases h : id = j
      · subst h; rw [if_pos rfl, if_pos hid, hb]
      · rw [if_neg h]
    rw [hH]
    refine OpD.same fun K β ac w hw h hk => ?_
    have hxv := h X (by simp [Op.operands, Call.operands])
    have hyv := h Y (by simp [Op.operands, Call.operands])
    have hxk := hk X (by simp [Op.operands, Call.operands])
    rw [hx] at hxv hxk; rw [hy] at hyv
    obtain ⟨A, c, us, e1, _⟩ := hyv.rd_inv
    refine ⟨ac.eval X, ?_, hxv, hxk⟩
    have := append_nothing (ty := ty) (w := w) E hxv A c
    simp only [execOp, resolve, List.map_toArray, List.map_cons, List.map_nil, e1, invoke, builtin, Sem.run_bind, Sem.run_pure, Result.andThen_ok, this]
  | succ m =>
    have := o_append_rdv (P := P) (C := C) (dst := dst) (ty := ty) (pos := pos) (after := after) (gu := gu) (n + (m + 1)) E hx hy hb rfl rfl (by omega) (by rw [hn]; exact Nat.le_refl _) hm h1 h63 hby
    rwa [show (Blk.cs ⟨cs, e, true, n⟩).take (n * sz) = cs by rw [← hn]; exact List.take_length] at this
/-- An append onto nil. -/
theorem o_appN {sz bytes m : Nat} {cs' : List D} (E : Elem P t e sz bytes) (hx : ev env X = .v (.slice none 0 0)) (hy : ev env Y = .rd m cs') (hm : cs'.length = m * sz) (h1 : ∀ d ∈ cs', oneD d = true)
    (h63 : m ≤ 9223372036854775807) (hby : m * bytes ≤ 140737488355328) :
    OpD P C ⟨dst, .call { callee := .builtin .append, args := #[X, Y], argTypes := #[t, t] }, ty, pos, after, gu⟩ env H (ow H.length m sz) (H ++ [tb e m cs']) := by
  refine OpD.of (HLe.app _ _) fun K β ac w hw h hk => ?_
  have hxv := h X (by simp [Op.operands, Call.operands])
  have hyv := h Y (by simp [Op.operands, Call.operands])
  have hyk := hk Y (by simp [Op.operands, Call.operands])
  rw [hx] at hxv; rw [hy] at hyv
  obtain ⟨A, c, us, e1, hmc, hlen, hc, hd⟩ := hyv.rd_inv
  have hw' := hw.newNil e
  have hat : (addB β H.length 0 ⟨0, 0, .none⟩) H.length 0 = ⟨0, 0, .none⟩ := addB_at
  have hb : (H ++ [some (⟨[], e, true, 0⟩ : Blk)])[H.length]? = some (some ⟨[], e, true, 0⟩) := by rw [List.getElem?_append_right (Nat.le_refl _)]; simp
  have hv0 : DR K (addB β H.length 0 ⟨0, 0, .none⟩) true (.slice none 0 0) (.own H.length 0 0 0 sz) := .own0 _ _ _ (by rw [hat])
  rcases Nat.eq_zero_or_pos m with h0 | h0
  · subst h0
    have h0 : cs' = [] := List.eq_nil_of_length_eq_zero (by simpa using hm)
    subst h0
    have hr := append_nothing (ty := ty) (w := w) E hv0 A c
    refine ⟨K, _, .slice none 0 0, w, ?_, KX.refl _ _, addB_agr, hw', hv0, .own _ _ _ _ _ (okV_new _ _)⟩
    simp only [execOp, resolve, List.map_toArray, List.map_cons, List.map_nil, hxv.v_inv, e1, invoke, builtin, Sem.run_bind, Sem.run_pure, Result.andThen_ok, hr]
  obtain ⟨u', w', t', hrun, hws, hdr⟩ := append_core (P := P) (ty := ty) (cs' := cs') (v' := m) (m := m) E hw' hv0 hb rfl rfl h0 (by simp) A c us (by omega) (fun j u hu => let ⟨ad, h1, h2⟩ := hc j u hu; ⟨ad, h1, hw.cell h2⟩) (fun u hu => by
    obtain ⟨j, hj⟩ := List.getElem?_of_mem hu
    have hlt : j < cs'.length := by rw [← hlen]; exact (List.getElem?_eq_some_iff.1 hj).1
    exact oneD.val (hd j u _ hj (List.getElem?_eq_getElem hlt)) (h1 _ (List.getElem_mem hlt))) hlen (fun j u d hu hd' => ((hd j u d hu hd').mono (H := []) (Mem.le.refl K) (by intro h; cases h) (Agr.refl _ _)).pure rfl |>.up rfl) (fun d hd' => by
      obtain ⟨j, hj⟩ := List.getElem?_of_mem hd'
      have hlt : j < us.length := by rw [hlen]; exact (List.getElem?_eq_some_iff.1 hj).1
      exact (hd j _ d (List.getElem?_eq_getElem hlt) hj).okp rfl) (by rw [Nat.zero_add]; exact h63) (by rw [Nat.zero_add]; exact hby)
  have hset : (H ++ [some (⟨[], e, true, 0⟩ : Blk)]).set H.length (some ⟨([] : List D).take (0 * sz) ++ cs', e, true, m⟩) = H ++ [some ⟨cs', e, true, m⟩] := by
    rw [List.set_append_right _ _ (Nat.le_refl _)]; simp
  rw [hset] at hws
  rw [Nat.zero_add] at hdr
  refine ⟨K, _, u', w', ?_, KX.refl _ _, fun i v hv => ?_, hws, hdr, .own _ _ _ _ _ (okV_new _ _)⟩
  · rw [← e1] at hrun
    simp only [execOp, resolve, List.map_toArray, List.map_cons, List.map_nil, hxv.v_inv, invoke, builtin, Sem.run_bind, Sem.run_pure, Result.andThen_ok, hrun]
  · have hi : i ≠ H.length := by have := hv.lt; omega
    rw [addB_ne (.inl hi), addB_ne (.inl hi)]
end
end Go.DL
