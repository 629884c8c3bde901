/-
  A logic of data for the walks: pointers held against nil; a receiver that is not nil. Plain lemmas over any program; no condition.
-/
import Derived.Test.YtpacdeiaimfiaaaDlX
set_option linter.unusedSimpArgs false
set_option linter.unusedVariables false
namespace Go.DL
open Go.RowKit
section
variable {P : Program} {C : Ctx} {env : Nat → D} {H : Heap} {dst : Option Nat} {ty t t' : TypeId} {pos : String} {after : Array Edge} {gu : Option (Nat × Bool)} {X Y : Operand}
theorem o_nilP {id ver off : Nat} (hx : ev env X = .ptr id ver off) : OpD P C ⟨dst, .nilCheck X, ty, pos, after, gu⟩ env H (.ptr id ver off) H := by
  refine OpD.same fun K β a w hw h hk => ?_
  have h1 := h X (by simp [Op.operands])
  have h2 := hk X (by simp [Op.operands])
  rw [hx] at h1 h2
  obtain ⟨e, _⟩ := h1.ptr_inv
  refine ⟨a.eval X, ?_, h1, h2⟩
  simp [execOp, e]
theorem o_nilA {cs : List D} (hx : ev env X = .adr cs) : OpD P C ⟨dst, .nilCheck X, ty, pos, after, gu⟩ env H (.adr cs) H := by
  refine OpD.same fun K β a w hw h hk => ?_
  have h1 := h X (by simp [Op.operands])
  have h2 := hk X (by simp [Op.operands])
  rw [hx] at h1 h2
  obtain ⟨ad, us, e, _⟩ := h1.adr_inv
  refine ⟨a.eval X, ?_, h1, h2⟩
  simp [execOp, e]
theorem run_eqnil {w : World} {e : TypeId} (p : Option Addr) (ht : P.underlying t = some (.pointer e)) : (Op.equal t (.pointer p) (.pointer none)).run P w = .ok p.isNone w := by
  refine run_equal_pointer_nil _ t p ?_
  rw [ht]
  simp [Program.pointee, ht]
theorem o_eqNP {id ver off : Nat} {e : TypeId} (hx : ev env X = .ptr id ver off) (hy : ev env Y = .v (.pointer none)) (ht : P.underlying t = some (.pointer e)) : OpD P C ⟨dst, .binOp .eql t X Y t', ty, pos, after, gu⟩ env H (.v (.bool false)) H := by
  refine OpD.same fun K β a w hw h hk => ⟨.bool false, ?_, .v _ _, .v _⟩
  have h1 := h X (by simp [Op.operands])
  have h2 := h Y (by simp [Op.operands])
  rw [hx] at h1; rw [hy] at h2
  obtain ⟨e1, _⟩ := h1.ptr_inv
  simp [execOp, e1, h2.v_inv, eqGuard, binOp, run_eqnil _ ht]
theorem o_eqNA {cs : List D} {e : TypeId} (hx : ev env X = .adr cs) (hy : ev env Y = .v (.pointer none)) (ht : P.underlying t = some (.pointer e)) : OpD P C ⟨dst, .binOp .eql t X Y t', ty, pos, after, gu⟩ env H (.v (.bool false)) H := by
  refine OpD.same fun K β a w hw h hk => ⟨.bool false, ?_, .v _ _, .v _⟩
  have h1 := h X (by simp [Op.operands])
  have h2 := h Y (by simp [Op.operands])
  rw [hx] at h1; rw [hy] at h2
  obtain ⟨ad, us, e1, _⟩ := h1.adr_inv
  simp [execOp, e1, h2.v_inv, eqGuard, binOp, run_eqnil _ ht]
theorem o_neNP {id ver off : Nat} {e : TypeId} (hx : ev env X = .ptr id ver off) (hy : ev env Y = .v (.pointer none)) (ht : P.underlying t = some (.pointer e)) : OpD P C ⟨dst, .binOp .neq t X Y t', ty, pos, after, gu⟩ env H (.v (.bool true)) H := by
  refine OpD.same fun K β a w hw h hk => ⟨.bool true, ?_, .v _ _, .v _⟩
  have h1 := h X (by simp [Op.operands])
  have h2 := h Y (by simp [Op.operands])
  rw [hx] at h1; rw [hy] at h2
  obtain ⟨e1, _⟩ := h1.ptr_inv
  simp [execOp, e1, h2.v_inv, eqGuard, binOp, run_eqnil _ ht]
/-- A nil pointer held against nil. -/
theorem o_eqNN {e : TypeId} (hx : ev env X = .v (.pointer none)) (hy : ev env Y = .v (.pointer none)) (ht : P.underlying t = some (.pointer e)) : OpD P C ⟨dst, .binOp .eql t X Y t', ty, pos, after, gu⟩ env H (.v (.bool true)) H := by
  refine OpD.same fun K β a w hw h hk => ⟨.bool true, ?_, .v _ _, .v _⟩
  have h1 := h X (by simp [Op.operands])
  have h2 := h Y (by simp [Op.operands])
  rw [hx] at h1; rw [hy] at h2
  simp [execOp, h1.v_inv, h2.v_inv, eqGuard, binOp, run_eqnil _ ht]
theorem o_neNN {e : TypeId} (hx : ev env X = .v (.pointer none)) (hy : ev env Y = .v (.pointer none)) (ht : P.underlying t = some (.pointer e)) : OpD P C ⟨dst, .binOp .neq t X Y t', ty, pos, after, gu⟩ env H (.v (.bool false)) H := by
  refine OpD.same fun K β a w hw h hk => ⟨.bool false, ?_, .v _ _, .v _⟩
  have h1 := h X (by simp [Op.operands])
  have h2 := h Y (by simp [Op.operands])
  rw [hx] at h1; rw [hy] at h2
  simp [execOp, h1.v_inv, h2.v_inv, eqGuard, binOp, run_eqnil _ ht]
theorem run_eqfnIn {w : World} (d : Nat) {f : FuncId} {ps rs : Array TypeId} {vr : Bool} (ht : P.underlying t = some (.func ps rs vr)) : (Op.equalIn (d + 1) t (.func (.func f) #[] #[]) .nilFunc).run P w = .ok false w := by
  simp [Op.equalIn, run_underlying ht]
theorem run_eqfn {w : World} {f : FuncId} {ps rs : Array TypeId} {vr : Bool} (ht : P.underlying t = some (.func ps rs vr)) : (Op.equal t (.func (.func f) #[] #[]) .nilFunc).run P w = .ok false w := run_eqfnIn 9999 ht
/-- A function held against nil. -/
theorem o_eqNF {f : FuncId} {ps rs : Array TypeId} {vr : Bool} (hx : ev env X = .v (.func (.func f) #[] #[])) (hy : ev env Y = .v .nilFunc) (ht : P.underlying t = some (.func ps rs vr)) : OpD P C ⟨dst, .binOp .eql t X Y t', ty, pos, after, gu⟩ env H (.v (.bool false)) H := by
  refine OpD.same fun K β a w hw h hk => ⟨.bool false, ?_, .v _ _, .v _⟩
  have h1 := h X (by simp [Op.operands])
  have h2 := h Y (by simp [Op.operands])
  rw [hx] at h1; rw [hy] at h2
  simp [execOp, h1.v_inv, h2.v_inv, eqGuard, binOp, run_eqfn ht]
theorem o_buildA {zv : Value} {n len sz bytes : Nat} {e : TypeId} {ps : List (Nat × Operand)} {cs : List D} (ht : P.underlying t = some (.array len e)) (hi : (P.info? t).map (fun i => (i.zero, i.size, i.bytes)) = some (some zv, n, bytes))
    (he : (P.info? e).map (·.size) = some sz) (hd : dfill env (fun i => some (i * sz, sz)) (zv.cells.toList.map D.v) ps = some cs) :
    OpD P C ⟨dst, .build t ps.toArray, ty, pos, after, gu⟩ env H (.agg cs) H := by
  refine OpD.same fun K β ac w _ h hk => ?_
  obtain ⟨i, hi1, hi2, hi3, hi4⟩ := info_parts hi
  obtain ⟨j, hj1, hj2⟩ := Option.map_eq_some_iff.1 he
  have hmem : ∀ p ∈ ps, p.2 ∈ (Op.build t ps.toArray).operands := fun p hp => by simp [Op.operands]; exact ⟨p.1, hp⟩
  obtain ⟨r, e1, e2, e3, e4⟩ := dfill_core (H := H) (env := env) (K := K) (β := β) (a := ac) ps zv.cells (zv.cells.toList.map D.v) cs (by simp) (fun j u d hu hd' => by
      rw [List.getElem?_map, hu] at hd'; simp at hd'; subst hd'; exact .v _ _) (fun d hd' => by obtain ⟨u, _, rfl⟩ := List.mem_map.1 hd'; exact .v _) (fun p hp => ⟨h _ (hmem p hp), hk _ (hmem p hp)⟩) hd
  have hb : P.built t (ps.map fun p => (p.1, ac.eval p.2)) = some r := by
    unfold Program.built
    simp only [hi1, ht, hi2, hj1, hj2]
    exact e1
  refine ⟨.agg r, ?_, ?_, .agg _ e4⟩
  · have := run_build (P := P) w t (ps.map fun p => (p.1, ac.eval p.2)).toArray r (by simpa using hb)
    simp only [execOp, Sem.run_bind, List.map_toArray, this, Result.andThen_ok, Sem.run_pure]
  · have e : Value.agg r = .agg r.toList.toArray := by simp
    rw [e]
    exact .agg _ _ _ (by rw [Array.length_toList]; exact e2) e3
end
section
variable {P : Program} {C : Ctx} {env : Nat → D} {H : Heap} {dst : Option Nat} {ty t : TypeId} {pos : String} {after : Array Edge} {gu : Option (Nat × Bool)} {X Y : Operand}
theorem vs_dr {K : Mem} {β : Nat → Nat → BT} {m : Bool} (us : List Value) : DR K β m (.agg us.toArray) (.agg (us.map D.v)) :=
  .agg _ _ _ (by simp) fun j u d hu hd => by rw [List.getElem?_map, hu] at hd; simp at hd; subst hd; exact .v _ _
theorem vs_ok {H : Heap} (us : List Value) : OkD H (.agg (us.map D.v)) := .agg _ fun c hc => by obtain ⟨u, _, rfl⟩ := List.mem_map.1 hc; exact .v _
/-- A key that a map does not have, where its data are of several cells. -/
theorem o_lookup_missA {ks : List Value} {cs : List D} {kt et : TypeId} {kd : TypeDesc} {k : Value} {us : List Value} {ok : Bool} (hx : ev env X = .mp ks cs) (hy : ev env Y = .v k) (ht : P.underlying t = some (.map kt et)) (hk : P.underlying kt = some kd) (hf : flatKey kd = true) (hz : (P.info? et).map (·.zero) = some (some (.agg us.toArray))) (hj : kFind kd k ks 0 = some none) :
    OpD P C ⟨dst, .lookup t X Y ok, ty, pos, after, gu⟩ env H (bif ok then .tup [.agg (us.map D.v), .v (.bool false)] else .agg (us.map D.v)) H := by
  refine OpD.same fun K β a w hw h _ => ?_
  have h1 := h X (by simp [Op.operands])
  have h2 := h Y (by simp [Op.operands])
  rw [hx] at h1; rw [hy] at h2
  obtain ⟨r, es, ck, e1, hK, hks, hlen, hds⟩ := h1.mp_inv
  have hheap := hw.holds _ _ hK
  subst hks
  obtain ⟨f1, _⟩ := findNow_of hj
  obtain ⟨inf, hi1, hi2⟩ := Option.map_eq_some_iff.1 hz
  have hfind : (Instr.findKey kt k es.toList).run P w = .ok none w := by
    simp [Instr.findKey, run_underlying hk, f1]
  refine ⟨if ok then .tuple #[.agg us.toArray, .bool false] else .agg us.toArray, ?_, ?_, ?_⟩
  · simp [execOp, e1, h2.v_inv, Instr.lookup, run_underlying ht, run_getMap hheap, run_checkKey' hk hf, hfind, zeroValue, typeInfo, hi1, hi2]
  · cases ok with
    | false => exact vs_dr us
    | true => exact tupR (us := [.agg us.toArray, .bool false]) rfl (by simp; exact ⟨vs_dr us, .v _ _⟩)
  · cases ok with
    | false => exact vs_ok us
    | true => exact .tup _ (by simp; exact ⟨vs_ok us, .v _⟩)
end
/-- An operation that does not run. -/
theorem OpD.off {P : Program} {C : Ctx} {o : Oper} {env : Nat → D} {H : Heap} (d : D) (hb : (true == false) = true) : OpD P C o env H d H := by cases hb
/-- What is owned, told anew. -/
theorem WC.reH {P : Program} {C : Ctx} {N : Nat} {c : Code} {s : St} {Q : DX → St → Prop} (H' : Heap) (h : s.H = H') (hw : WC P C N c ⟨s.env, H'⟩ Q) : WC P C N c s Q := by subst h; exact hw
/-- An operation whose guard is known to hold, which changes what is owned. -/
theorem RG.opgM {P : Program} {C : Ctx} {N : Nat} {ops : Array Oper} {o : Oper} {rest : List Oper} {s : St} {F : DX → St → Prop} (b : Bool) (j : Nat) (want : Bool) (t : Nat) (d : D) (H' : Heap) (hg : o.guard = some (j, want)) (ht : (ops[j]?).bind (·.dst) = some t) (hlt : Nat.blt t N = true) (hb : s.env t = .v (.bool b)) (hbw : (b == want) = true) (hf : fits N o = true)
    (h : OpD P C o s.env s.H d H') (hr : RG P C N ops rest ⟨updO s.env o.dst d, H'⟩ F) : RG P C N ops (o :: rest) s F := by
  intro K β a w Q hs hq
  have hy : yielded ops a.tmps j = some b := yielded_of ht (by rw [hs.size]; simpa [Nat.blt_eq] using hlt) (hb ▸ hs.rd t)
  refine listW_step fun Kc hK => ?_
  have hw : Region.wanted o (yielded ops a.tmps) = true := by
    simp only [Region.wanted, hg, hy]
    cases b <;> cases want <;> simp at hbw ⊢
  rw [hw]
  simp only [if_true]
  refine h.go K β a w Kc Q hs.ws (fun x _ => hs.ev x) (fun x _ => hs.evok x) fun K' β' v w' hx hβ hw hv ho => hK _ _ ?_
  exact hr K' β' _ w' Q (hs.put hx.le hβ hw h.len hv ho hf) fun e a' w'' hA => hq _ _ _ (hA.mono ⟨hx, hβ, h.len⟩ fun _ _ h => h)
end Go.DL
