/-
  A logic of data for the walks: a string's bytes behind a row of the call's own; calls that make blocks anew. Plain lemmas over any program; no condition.
-/
import Derived.Test.YtbdibcpenihpdaaDlX
import Derived.Test.YtbdibcpenihpdaaDlR
set_option linter.unusedSimpArgs false
set_option linter.unusedVariables false
namespace Go.DL
open Go.RowKit
section
variable {P : Program} {C : Ctx} {env : Nat → D} {H : Heap} {dst : Option Nat} {ty t t' e : TypeId} {pos : String} {after : Array Edge} {gu : Option (Nat × Bool)} {X Y : Operand}
theorem append_nothingS {K : Mem} {β : Nat → Nat → BT} {w : World} {id ver off n sz bytes : Nat} (E : Elem P t e sz bytes) (hu : P.underlying t' = some .string) {v : Value} (hv : DR K β true v (.own id ver off n sz)) : (Builtin.append_ #[t, t'] ty #[v, .string ⟨#[]⟩]).run P w = .ok v w := by
  obtain ⟨i, z, hi, hz, hsz, hbs, hzs⟩ := E.inf
  obtain ⟨A', c', rfl, hc⟩ := hv.own_len
  have hs : ByteArray.size ⟨#[]⟩ = 0 := rfl
  cases A' <;> simp [Builtin.append_, run_underlying E.ut, run_underlying hu, sizeOf, typeInfo, hi, Builtin.lenOf, Builtin.firstCells, hc, hs, storeCells]
theorem o_appS {id n : Nat} {cs : List D} {l : List UInt8} (E : Elem P t e 1 1) (hx : ev env X = ow id n 1) (hy : ev env Y = S l) (hu : P.underlying t' = some .string) (hi : (P.info? e).map (fun i => (i.zero, i.size, i.bytes)) = some (some (.int .u8 0), 1, 1)) (hb : H[id]? = some (tb e n cs)) (hn : cs.length = n)
    (h63 : n + l.length ≤ 9223372036854775807) (hby : n + l.length ≤ 140737488355328) :
    OpD P C ⟨dst, .call { callee := .builtin .append, args := #[X, Y], argTypes := #[t, t'] }, ty, pos, after, gu⟩ env H (ow id (n + l.length) 1) (H.set id (tb e (n + l.length) (cs ++ bytesD l))) := by
  cases l with
  | nil =>
    have e1 : H.set id (tb e (n + ([] : List UInt8).length) (cs ++ bytesD [])) = H := by
      show H.set id (tb e n (cs ++ [])) = H
      rw [List.append_nil]; exact set_same hb
    rw [e1]
    refine OpD.same fun K β ac w hw h hk => ?_
    have hxv := h X (by simp [Op.operands, Call.operands])
    have hyv := h Y (by simp [Op.operands, Call.operands])
    have hxk := hk X (by simp [Op.operands, Call.operands])
    rw [hx] at hxv hxk; rw [hy] at hyv
    refine ⟨_, ?_, hxv, hxk⟩
    have hr := append_nothingS (ty := ty) (w := w) E hu hxv
    have hyv' : ac.eval Y = .string ⟨#[]⟩ := hyv.v_inv
    simp only [execOp, resolve, List.map_toArray, List.map_cons, List.map_nil, hyv', invoke, builtin, Sem.run_bind, Sem.run_pure, Result.andThen_ok, hr]
  | cons a l =>
    have := o_appG (P := P) (C := C) (dst := dst) (ty := ty) (pos := pos) (after := after) (gu := gu) (n + (a :: l).length) hx hy (src_str (C := C) (ty := ty) E.ut hu hi) hb rfl rfl (by simp) (by rw [hn, Nat.mul_one]; exact Nat.le_refl _) h63 (by rw [Nat.mul_one]; exact hby)
    rwa [show (Blk.cs ⟨cs, e, true, n⟩).take (n * 1) = cs by rw [Nat.mul_one, ← hn]; exact List.take_length] at this
end
/-- A call that makes one block anew, and hands back a row of it. -/
theorem FunM.new1 {P : Program} {f : FuncId} {ds : List D} {H : Heap} {e : TypeId} {n sz : Nat} {cs : List D} (h : FunM P f ds [] fun o H' => o = .ret (ow 0 n sz) ∧ H' = [tb e n cs]) (hp : PureAll ds) (hc : ∀ c ∈ cs, Pure' c) : FunM P f ds H fun o H'' => o = .ret (ow H.length n sz) ∧ H'' = H ++ [tb e n cs] := by
  have hds : All2 (Ren (rho [] H.length)) ds ds := by
    have := hp.at
    clear h hp
    induction ds with
    | nil => trivial
    | cons d ds ih => exact ⟨.pure d (this d (by simp)), ih fun c hc => this c (by simp [hc])⟩
  exact FunM.frame [] [] [] [tb e n cs] h (by simp) trivial trivial hds rfl ⟨.pure hc, trivial⟩ (.own _ _ _ _ _ (by simp [rho])) rfl
end Go.DL
