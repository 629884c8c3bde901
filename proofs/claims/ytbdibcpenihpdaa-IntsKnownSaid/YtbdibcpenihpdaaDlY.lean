/-
  A logic of data for the walks: an evaluator of code on exact data: what each operation makes. Plain lemmas over any program; no condition.
-/
import Derived.Test.YtbdibcpenihpdaaDlE
set_option linter.unusedSimpArgs false
set_option linter.unusedVariables false
namespace Go.DL
open Go.RowKit

/-! ### Operations that had no lemma -/
section
variable {P : Program} {C : Ctx} {env : Nat → D} {H : Heap} {dst : Option Nat} {ty t t' e : TypeId} {pos : String} {after : Array Edge} {gu : Option (Nat × Bool)} {X Y : Operand}
theorem o_lookupO_hit {id ver : Nat} {b : Blk} {kt et : TypeId} {kd : TypeDesc} {k kk : Value} {d : D} {ok : Bool} (j : Nat) (hx : ev env X = .omp id ver) (hb : H[id]? = some (some b)) (hv : b.ver = ver) (hy : ev env Y = .v k) (ht : P.underlying t = some (.map kt et)) (hk : P.underlying kt = some kd) (hf : flatKey kd = true) (hj : kFind kd k (keysD b.cs) 0 = some (some j)) (hd : b.cs[j]? = some (.tup [.v kk, d])) :
    OpD P C ⟨dst, .lookup t X Y ok, ty, pos, after, gu⟩ env H (bif ok then .tup [d, .v (.bool true)] else d) H := by
  subst hv
  refine OpD.same fun K β a w hw h _ => ?_
  have h1 := h X (by simp [Op.operands])
  have h2 := h Y (by simp [Op.operands])
  rw [hx] at h1; rw [hy] at h2
  obtain ⟨e1, hst⟩ := h1.omp_inv
  obtain ⟨es, ck, hheap, hE⟩ := hw.mapd hb hst
  rw [hE.keys] at hj
  obtain ⟨f1, f2⟩ := findNow_of hj
  obtain ⟨_, f3⟩ := f2 j rfl
  rw [Nat.sub_zero] at f3
  have hu : es[j]? = some es[j] := Array.getElem?_eq_getElem (by simpa using f3)
  obtain ⟨dv, e2, hdv⟩ := hE.rd j _ _ hu hd
  have hdd : dv = d := by injection e2 with e3; injection e3 with _ e4; injection e4 with e5 _; exact e5.symm
  subst hdd
  have hok : OkD H dv := by
    cases hw.ok id b hb _ (List.mem_of_getElem? hd) with
    | tup _ h => exact h dv (by simp)
  have hfind : (Instr.findKey kt k es.toList).run P w = .ok (some (j, es[j].val)) w := by
    have hl : es.toList[j]? = some es[j] := by rw [Array.getElem?_toList]; exact hu
    simp [Instr.findKey, run_underlying hk, f1, hl, hu]
  refine ⟨if ok then .tuple #[es[j].val, .bool true] else es[j].val, ?_, ?_, ?_⟩
  · simp [execOp, e1, h2.v_inv, Instr.lookup, run_underlying ht, run_getMap hheap, run_checkKey' hk hf, hfind]
  · cases ok with
    | false => exact hdv
    | true => exact tupR (us := [es[j].val, .bool true]) rfl (by simp [hdv]; exact .v _ _)
  · cases ok with
    | false => exact hok
    | true => exact .tup _ (by simp [hok]; exact .v _)
theorem o_lookupO_miss {id ver : Nat} {b : Blk} {kt et : TypeId} {kd : TypeDesc} {k zv : Value} {ok : Bool} (hx : ev env X = .omp id ver) (hb : H[id]? = some (some b)) (hv : b.ver = ver) (hy : ev env Y = .v k) (ht : P.underlying t = some (.map kt et)) (hk : P.underlying kt = some kd) (hf : flatKey kd = true) (hz : (P.info? et).map (·.zero) = some (some zv)) (hj : kFind kd k (keysD b.cs) 0 = some none) :
    OpD P C ⟨dst, .lookup t X Y ok, ty, pos, after, gu⟩ env H (bif ok then .tup [.v zv, .v (.bool false)] else .v zv) H := by
  subst hv
  refine OpD.same fun K β a w hw h _ => ?_
  have h1 := h X (by simp [Op.operands])
  have h2 := h Y (by simp [Op.operands])
  rw [hx] at h1; rw [hy] at h2
  obtain ⟨e1, hst⟩ := h1.omp_inv
  obtain ⟨es, ck, hheap, hE⟩ := hw.mapd hb hst
  rw [hE.keys] at hj
  obtain ⟨f1, _⟩ := findNow_of hj
  obtain ⟨inf, hi1, hi2⟩ := Option.map_eq_some_iff.1 hz
  have hfind : (Instr.findKey kt k es.toList).run P w = .ok none w := by
    simp [Instr.findKey, run_underlying hk, f1]
  refine ⟨if ok then .tuple #[zv, .bool false] else zv, ?_, ?_, ?_⟩
  · simp [execOp, e1, h2.v_inv, Instr.lookup, run_underlying ht, run_getMap hheap, run_checkKey' hk hf, hfind, zeroValue, typeInfo, hi1, hi2]
  · cases ok with
    | false => exact .v _ _
    | true => exact tupR (us := [zv, .bool false]) rfl (by simp; exact ⟨.v _ _, .v _ _⟩)
  · cases ok with
    | false => exact .v _
    | true => exact .tup _ (by simp; exact ⟨.v _, .v _⟩)
theorem o_copyN {id ver off n : Nat} (hx : ev env X = .own id ver off n 1) (hy : ev env Y = .v (.slice none 0 0)) (ht : P.underlying t = some (.slice e)) (hi : (P.info? e).map (·.size) = some 1) :
    OpD P C ⟨dst, .call { callee := .builtin .copy, args := #[X, Y], argTypes := #[t, t'] }, ty, pos, after, gu⟩ env H (I64 ((0 : Nat) : Int)) H := by
  refine OpD.same fun K β ac w hw h hk' => ?_
  have hxv := h X (by simp [Op.operands, Call.operands])
  have hyv := h Y (by simp [Op.operands, Call.operands])
  rw [hx] at hxv; rw [hy] at hyv
  obtain ⟨A', c', e2, hc'⟩ := hxv.own_len
  have hrun := copy_nothing (P := P) (ty := ty) (w := w) (sT := t') (A := A') (n := n) (c := c') (A' := none) (m := 0) (c' := 0) ht hi (by simp)
  refine ⟨_, ?_, .v _ _, .v _⟩
  simp only [execOp, resolve, List.map_toArray, List.map_cons, List.map_nil, hyv.v_inv, e2, invoke, builtin, Sem.run_bind, Sem.run_pure, Result.andThen_ok, hrun]; rfl
theorem o_copyO {id ver off n m id2 ver2 off2 : Nat} {b b2 : Blk} (k : Nat) (hx : ev env X = .own id ver off n 1) (hy : ev env Y = .own id2 ver2 off2 m 1) (ht : P.underlying t = some (.slice e)) (hi : (P.info? e).map (·.size) = some 1) (hb : H[id]? = some (some b)) (hv : b.ver = ver) (hb2 : H[id2]? = some (some b2)) (hv2 : b2.ver = ver2) (hk : min m n = k) (hn : off + n ≤ b.cs.length) (hm : off2 + m ≤ b2.cs.length) (h1 : ∀ d ∈ (b2.cs.drop off2).take k, oneD d = true) :
    OpD P C ⟨dst, .call { callee := .builtin .copy, args := #[X, Y], argTypes := #[t, t'] }, ty, pos, after, gu⟩ env H (I64 k) (H.set id (some { b with cs := spl b.cs off ((b2.cs.drop off2).take k) })) := by
  subst hv hv2
  refine OpD.of (HLe.set hb (Nat.le_refl _)) fun K β ac w hw h hk' => ?_
  have hxv := h X (by simp [Op.operands, Call.operands])
  have hyv := h Y (by simp [Op.operands, Call.operands])
  rw [hx] at hxv; rw [hy] at hyv
  obtain ⟨A', c', e2, hc'⟩ := hxv.own_len
  obtain ⟨A, c, e1, hmc⟩ := hyv.own_len
  rcases Nat.eq_zero_or_pos k with h0 | h0
  · subst h0
    have hrun := copy_nothing (P := P) (ty := ty) (w := w) (sT := t') (A := A') (n := n) (c := c') (A' := A) (m := m) (c' := c) ht hi hk
    have hs : spl b.cs off ((b2.cs.drop off2).take 0) = b.cs := by unfold spl; simp
    rw [hs, set_same hb]
    refine ⟨K, β, _, w, ?_, KX.refl _ _, Agr.refl _ _, hw, .v _ _, .v _⟩
    simp only [execOp, resolve, List.map_toArray, List.map_cons, List.map_nil, e1, e2, invoke, builtin, Sem.run_bind, Sem.run_pure, Result.andThen_ok, hrun]; rfl
  · rcases hyv.own_inv with ⟨c3, e3, hnc3, _, _, hr2⟩ | ⟨_, _, hn0, _⟩
    rotate_left
    · omega
    rw [e1] at e3
    cases e3
    obtain ⟨us0, rest0, hh2, hl2, _, _, hd0⟩ := hw.real hb2 hr2
    let us := (us0.drop off2).take k
    have hus : us.length = k := by simp only [us]; rw [List.length_take, List.length_drop]; omega
    have hget : ∀ (j : Nat) u, us[j]? = some u → j < k ∧ us0[off2 + j]? = some u := by
      intro j u hu
      simp only [us] at hu
      rw [List.getElem?_take] at hu
      split at hu
      · rw [List.getElem?_drop] at hu; exact ⟨by assumption, hu⟩
      · cases hu
    have hgetd : ∀ (j : Nat) d, ((b2.cs.drop off2).take k)[j]? = some d → j < k ∧ b2.cs[off2 + j]? = some d := by
      intro j u hu
      rw [List.getElem?_take] at hu
      split at hu
      · rw [List.getElem?_drop] at hu; exact ⟨by assumption, hu⟩
      · cases hu
    rcases hxv.own_inv with ⟨c2, e3, hnc, _, _, hr⟩ | ⟨e3, _, hn0, _⟩
    · rw [e2] at e3
      cases e3
      obtain ⟨vs, rest, hh, hl, htot, hg, hdd⟩ := hw.real hb hr
      have hone : ∀ v ∈ us, v.oneCell' = true := fun u hu => by
        obtain ⟨j, hj⟩ := List.getElem?_of_mem hu
        obtain ⟨hj1, hj2⟩ := hget j u hj
        have hlt : off2 + j < b2.cs.length := by omega
        refine oneD.val (hd0 _ u _ hj2 (List.getElem?_eq_getElem hlt)) (h1 _ ?_)
        exact List.mem_of_getElem? (i := j) (by rw [List.getElem?_take, if_pos hj1, List.getElem?_drop, List.getElem?_eq_getElem hlt])
      have hrun := run_copy_row (P := P) w t t' ty e (β id b.ver).blk off n c' ⟨(β id2 b2.ver).blk, off2, none⟩ m c (vs ++ rest).toArray b.e us ht hi hh (by rw [hus]; exact hk.symm) (fun j v hj => by
        obtain ⟨_, hj2⟩ := hget j v hj
        rw [add_lit, cell_at hh2, List.getElem?_append_left (List.getElem?_eq_some_iff.1 hj2).1]; exact hj2) (by rw [hus]; simp; omega) hone
      have hckl : ((b2.cs.drop off2).take k).length = k := by rw [List.length_take, List.length_drop]; omega
      have hput := hw.put hb hr (spl b.cs off ((b2.cs.drop off2).take k)) (spl vs off us) rest
        (by rw [spl_length (by rw [hus]; omega), spl_length (by rw [hckl]; omega), hl]) (by rw [spl_length (by rw [hus]; omega)]; exact htot) hg
        (fun j u d hu hd' => by
          rw [spl_get (by rw [hus]; omega)] at hu
          rw [spl_get (by rw [hckl]; omega)] at hd'
          rw [hus] at hu; rw [hckl] at hd'
          by_cases hj1 : j < off
          · rw [if_pos hj1] at hu hd'; exact hdd j u d hu hd'
          · rw [if_neg hj1] at hu hd'
            by_cases hj2 : j < off + k
            · rw [if_pos hj2] at hu hd'
              exact hd0 _ u d (hget _ u hu).2 (hgetd _ d hd').2
            · rw [if_neg hj2] at hu hd'; exact hdd j u d hu hd')
        (fun d hd' => by
          unfold spl at hd'
          rcases List.mem_append.1 hd' with h | h
          · rcases List.mem_append.1 h with h | h
            · exact hw.ok id b hb d (List.mem_of_mem_take h)
            · exact hw.ok id2 b2 hb2 d (List.mem_of_mem_drop (List.mem_of_mem_take h))
          · exact hw.ok id b hb d (List.mem_of_mem_drop h))
      have hrow : (List.take off (vs ++ rest).toArray.toList ++ us ++ List.drop (off + us.length) (vs ++ rest).toArray.toList).toArray = (spl vs off us ++ rest).toArray := by
        congr 1
        unfold spl
        rw [List.take_append_of_le_length (by omega), List.drop_append_of_le_length (by rw [hus]; omega)]
        simp
      rw [hrow, hus] at hrun
      refine ⟨K, β, _, _, ?_, KX.refl _ _, Agr.refl _ _, hput, .v _ _, .v _⟩
      simp only [execOp, resolve, List.map_toArray, List.map_cons, List.map_nil, e1, e2, invoke, builtin, Sem.run_bind, Sem.run_pure, Result.andThen_ok, hrun]; rfl
    · omega
theorem src_nil {sz bytes : Nat} (E : Elem P t e sz bytes) : Src P C t t ty e sz bytes H (.v (.slice none 0 0)) 0 [] :=
  fun K β w x hw hyv _ => src_rd (H := H) (m := 0) (cs' := []) E (by simp) (by simp) K β w x hw (hyv.arg (.inr ⟨rfl, rfl⟩)) (.rd _ _)
end

/-! ### What a program says of types and functions -/
structure TE (P : Program) where
  t : TypeId
  td : TypeDesc
  zv : Value
  sz : Nat
  bytes : Nat
  hu : P.underlying t = some td
  hi : (P.info? t).map (fun i => (i.zero, i.size, i.bytes)) = some (some zv, sz, bytes)
  hz : zv.cells.size = sz
structure PlE (P : Program) where
  t : TypeId
  pl : List (Nat × Nat)
  h : ∀ fs, P.underlying t = some (.struct fs) → fs.toList.mapM (fun f => (P.info? f.type).map fun i => (f.offset, i.size)) = some pl
structure FsE (P : Program) where
  t : TypeId
  tds : List TypeDesc
  h : FlatS P t tds
structure FnE (P : Program) where
  f : FuncId
  fn : Func
  body : Code
  hf : P.funcs[f]? = some fn
  hb : fn.body = some body
  hc : Callee P f
structure Tab (P : Program) where
  ty : Tr (TE P)
  pl : Tr (PlE P)
  fs : Tr (FsE P)
  fn : Tr (FnE P)
  mix : P.follows .mixedOrders = true
section
variable {P : Program}
theorem TE.size (e : TE P) : (P.info? e.t).map (·.size) = some e.sz := sz_of e.hi
noncomputable def Tab.tyAt (T : Tab P) (t : TypeId) : Option (TE P) := match T.ty.get t with
  | some e => bif Nat.beq e.t t then some e else none
  | none => none
noncomputable def Tab.plAt (T : Tab P) (t : TypeId) : Option (PlE P) := match T.pl.get t with
  | some e => bif Nat.beq e.t t then some e else none
  | none => none
noncomputable def Tab.fsAt (T : Tab P) (t : TypeId) : Option (FsE P) := match T.fs.get t with
  | some e => bif Nat.beq e.t t then some e else none
  | none => none
noncomputable def Tab.fnAt (T : Tab P) (t : FuncId) : Option (FnE P) := match T.fn.get t with
  | some e => bif Nat.beq e.f t then some e else none
  | none => none
theorem bif_some {X : Type} {c : Bool} {a : Option X} {r : X} (h : (bif c then a else none) = some r) : c = true ∧ a = some r := by cases c with | true => exact ⟨rfl, h⟩ | false => cases h
theorem Tab.tyAt_eq {T : Tab P} {t : TypeId} {e : TE P} (h : T.tyAt t = some e) : e.t = t := by
  unfold Tab.tyAt at h
  split at h
  · obtain ⟨h1, h2⟩ := bif_some h; cases h2; exact Nat.eq_of_beq_eq_true h1
  · cases h
theorem Tab.plAt_eq {T : Tab P} {t : TypeId} {e : PlE P} (h : T.plAt t = some e) : e.t = t := by
  unfold Tab.plAt at h
  split at h
  · obtain ⟨h1, h2⟩ := bif_some h; cases h2; exact Nat.eq_of_beq_eq_true h1
  · cases h
theorem Tab.fsAt_eq {T : Tab P} {t : TypeId} {e : FsE P} (h : T.fsAt t = some e) : e.t = t := by
  unfold Tab.fsAt at h
  split at h
  · obtain ⟨h1, h2⟩ := bif_some h; cases h2; exact Nat.eq_of_beq_eq_true h1
  · cases h
theorem Tab.fnAt_eq {T : Tab P} {t : FuncId} {e : FnE P} (h : T.fnAt t = some e) : e.f = t := by
  unfold Tab.fnAt at h
  split at h
  · obtain ⟨h1, h2⟩ := bif_some h; cases h2; exact Nat.eq_of_beq_eq_true h1
  · cases h
end
end Go.DL
