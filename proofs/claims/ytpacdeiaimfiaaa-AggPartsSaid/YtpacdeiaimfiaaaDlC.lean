/-
  A logic of data for the walks, third part: what each operation makes. Plain lemmas over any program; no condition.
-/
import Derived.Test.YtpacdeiaimfiaaaDlB
import Derived.Laws.MakeOwn
import Derived.Laws.CopyRow
import Derived.Laws.CopyOwn
import Derived.OwnWalk
set_option linter.unusedSimpArgs false
set_option linter.unusedVariables false
namespace Go.DL
open Go.RowKit

section
variable {P : Program} {C : Ctx} {o : Oper} {env : Nat → D} {H H' : Heap} {d : D}
theorem OpD.of (hl : HLe H H')
    (h : ∀ K β (a : Act) (w : World), WS C K β H w → (∀ x ∈ o.op.operands, DR K β true (a.eval x) (ev env x)) → (∀ x ∈ o.op.operands, OkD H (ev env x)) →
      ∃ K' β' v w', (execOp a.eval o).run P w = .ok (.value v) w' ∧ KX C K K' ∧ Agr H β β' ∧ WS C K' β' H' w' ∧ DR K' β' true v d ∧ OkD H' d) : OpD P C o env H d H' :=
  ⟨hl, fun K β a w Kc Q hw hx hk hn => by
    obtain ⟨K', β', v, w', hr, h1, h2, h3, h4, h5⟩ := h K β a w hw hx hk
    exact wpIn_FW (defer_run hr (fun d h => by cases h)) (by rw [hr]; exact hn K' β' v w' h1 h2 h3 h4 h5)⟩
theorem OpD.ofSkip (hl : HLe H H')
    (h : ∀ K β (a : Act) (w : World), WS C K β H w → (∀ x ∈ o.op.operands, DR K β true (a.eval x) (ev env x)) → (∀ x ∈ o.op.operands, OkD H (ev env x)) →
      ∃ K' β' w', (execOp a.eval o).run P w = .ok .skip w' ∧ KX C K K' ∧ Agr H β β' ∧ WS C K' β' H' w') : OpD P C o env H (.v undef) H' :=
  ⟨hl, fun K β a w Kc Q hw hx hk hn => by
    obtain ⟨K', β', w', hr, h1, h2, h3⟩ := h K β a w hw hx hk
    exact wpIn_FW (defer_run hr (fun d h => by cases h)) (by rw [hr]; exact hn K' β' undef w' h1 h2 h3 (.v _ _) (.v _))⟩
/-- An operation that leaves the world alone. -/
theorem OpD.same
    (h : ∀ K β (a : Act) (w : World), WS C K β H w → (∀ x ∈ o.op.operands, DR K β true (a.eval x) (ev env x)) → (∀ x ∈ o.op.operands, OkD H (ev env x)) → ∃ v, (execOp a.eval o).run P w = .ok (.value v) w ∧ DR K β true v d ∧ OkD H d) : OpD P C o env H d H :=
  OpD.of (HLe.refl _) fun K β a w hw hx hk => let ⟨v, h1, h2, h3⟩ := h K β a w hw hx hk; ⟨K, β, v, w, h1, KX.refl _ _, Agr.refl _ _, hw, h2, h3⟩
theorem OpD.cast {d' : D} (h : OpD P C o env H d H') (e : d = d') : OpD P C o env H d' H' := e ▸ h
end

def isV : D → Bool
  | .v _ => true
  | _ => false
def vOf : D → Value
  | .v x => x
  | _ => undef
def vals (env : Nat → D) (x : Operand) : Value := vOf (ev env x)
def noSel : Op → Bool
  | .select .. => false
  | _ => true
section
variable {P : Program} {C : Ctx} {env : Nat → D} {H : Heap} {dst : Option Nat} {ty : TypeId} {pos : String} {after : Array Edge} {gu : Option (Nat × Bool)} {x y z : Operand} {t e : TypeId}
/-- An operation on exact values that asks nothing. -/
theorem o_pure {o : Oper} (r : Value) (hv : (o.op.operands.toList.all fun x => isV (ev env x)) = true) (hs : noSel o.op = true) (h : execOp (vals env) o = .pure (.value r)) : OpD P C o env H (.v r) H := by
  refine OpD.same fun K β a w hw hx _ => ⟨r, ?_, .v _ _, .v _⟩
  have e : execOp a.eval o = execOp (vals env) o := by
    refine execOp_congr o (fun cs b h => by rw [h] at hs; cases hs) fun x hx' => ?_
    have h1 := hx x hx'
    have h2 := List.all_eq_true.1 hv x (by simpa using hx')
    unfold vals
    cases hd : ev env x with
    | v y => rw [hd] at h1; exact h1.v_inv
    | _ => rw [hd] at h2; cases h2
  rw [e, h]; rfl
theorem o_move (d : D) (h : ev env x = d) : OpD P C ⟨dst, .move x, ty, pos, after, gu⟩ env H d H := by
  subst h
  exact OpD.same fun K β a w _ hx hk => ⟨_, rfl, hx x (by simp [Op.operands]), hk x (by simp [Op.operands])⟩
theorem o_assign (d : D) (h : ev env x = d) : OpD P C ⟨dst, .assign x, ty, pos, after, gu⟩ env H d H := by
  subst h
  exact OpD.same fun K β a w _ hx hk => ⟨_, rfl, hx x (by simp [Op.operands]), hk x (by simp [Op.operands])⟩
/-- 'pick' on a condition that is known by name. -/
theorem o_pick (b : Bool) (d1 d2 : D) (hc : ev env x = .v (.bool b)) (h1 : ev env y = d1) (h2 : ev env z = d2) : OpD P C ⟨dst, .pick x y z, ty, pos, after, gu⟩ env H (bif b then d1 else d2) H := by
  subst h1 h2
  refine OpD.same fun K β a w _ hx hk => ?_
  have e := hx x (by simp [Op.operands])
  rw [hc] at e
  have e' := e.v_inv
  cases b
  · exact ⟨a.eval z, by simp [execOp, e', asBool], hx z (by simp [Op.operands]), hk z (by simp [Op.operands])⟩
  · exact ⟨a.eval y, by simp [execOp, e', asBool], hx y (by simp [Op.operands]), hk y (by simp [Op.operands])⟩
/-- 'a && b': the second is looked at only where the first is true. -/
theorem o_and (b p : Bool) (hc : ev env x = .v (.bool b)) (h1 : ev env y = gd (b == true) (.v (.bool p))) (h2 : ev env z = .v (.bool false)) : OpD P C ⟨dst, .pick x y z, ty, pos, after, gu⟩ env H (.v (.bool (b && p))) H :=
  (o_pick b _ _ hc h1 h2).cast (by cases b <;> rfl)
theorem o_or (b p : Bool) (hc : ev env x = .v (.bool b)) (h1 : ev env y = .v (.bool true)) (h2 : ev env z = gd (b == false) (.v (.bool p))) : OpD P C ⟨dst, .pick x y z, ty, pos, after, gu⟩ env H (.v (.bool (b || p))) H :=
  (o_pick b _ _ hc h1 h2).cast (by cases b <;> rfl)
/-- A conversion between kinds of integers. -/
theorem o_int {s dt : TypeId} {k k' : IntKind} {n : Int} {ds : TypeDesc} (hx : ev env x = .v (.int k n)) (hs : P.underlying s = some ds) (hd : P.underlying dt = some (.int k')) : OpD P C ⟨dst, .convert s dt x, ty, pos, after, gu⟩ env H (.v (.int k' (k'.wrap n))) H := by
  refine OpD.same fun K β a w _ hx' _ => ⟨_, ?_, .v _ _, .v _⟩
  have e := hx' x (by simp [Op.operands])
  rw [hx] at e
  simp [execOp, convert, run_underlying hs, run_underlying hd, e.v_inv, Conv.intToInt]
theorem o_len_rd {n : Nat} {cs : List D} (hx : ev env x = .rd n cs) (ht : P.underlying t = some (.slice e)) : OpD P C ⟨dst, .call { callee := .builtin .len, args := #[x], argTypes := #[t] }, ty, pos, after, gu⟩ env H (.v (.int .i64 n)) H := by
  refine OpD.same fun K β a w _ hx' _ => ⟨_, ?_, .v _ _, .v _⟩
  have h := hx' x (by simp [Op.operands, Call.operands])
  rw [hx] at h
  obtain ⟨A, c, us, e', _⟩ := h.rd_inv
  simp [execOp, resolve, invoke, builtin, Builtin.len_, run_underlying ht, e', goInt]
theorem o_len_own {id ver off n sz : Nat} (hx : ev env x = .own id ver off n sz) (ht : P.underlying t = some (.slice e)) : OpD P C ⟨dst, .call { callee := .builtin .len, args := #[x], argTypes := #[t] }, ty, pos, after, gu⟩ env H (.v (.int .i64 n)) H := by
  refine OpD.same fun K β a w _ hx' _ => ⟨_, ?_, .v _ _, .v _⟩
  have h := hx' x (by simp [Op.operands, Call.operands])
  rw [hx] at h
  obtain ⟨A, c, e', _⟩ := h.own_len
  simp [execOp, resolve, invoke, builtin, Builtin.len_, run_underlying ht, e', goInt]
theorem o_len_v {A : Option Addr} {n c : Nat} (hx : ev env x = .v (.slice A n c)) (ht : P.underlying t = some (.slice e)) : OpD P C ⟨dst, .call { callee := .builtin .len, args := #[x], argTypes := #[t] }, ty, pos, after, gu⟩ env H (.v (.int .i64 n)) H := by
  refine OpD.same fun K β a w _ hx' _ => ⟨_, ?_, .v _ _, .v _⟩
  have h := hx' x (by simp [Op.operands, Call.operands])
  rw [hx] at h
  simp [execOp, resolve, invoke, builtin, Builtin.len_, run_underlying ht, h.v_inv, goInt]
theorem o_len_s {s : ByteArray} (hx : ev env x = .v (.string s)) (ht : P.underlying t = some .string) : OpD P C ⟨dst, .call { callee := .builtin .len, args := #[x], argTypes := #[t] }, ty, pos, after, gu⟩ env H (.v (.int .i64 s.size)) H := by
  refine OpD.same fun K β a w _ hx' _ => ⟨_, ?_, .v _ _, .v _⟩
  have h := hx' x (by simp [Op.operands, Call.operands])
  rw [hx] at h
  simp [execOp, resolve, invoke, builtin, Builtin.len_, run_underlying ht, h.v_inv, goInt]
end

/-! ### Cells -/
/-- Is a datum one that a cell can hold? -/
def oneD : D → Bool
  | .v x => x.oneCell'
  | .rd .. | .adr _ | .own .. | .ptr .. | .fn .. | .iface .. | .mp .. | .omp .. => true
  | _ => false
theorem oneD.val {K : Mem} {β : Nat → Nat → BT} {m : Bool} {v : Value} {d : D} (h : DR K β m v d) (ho : oneD d = true) : v.oneCell' = true := by
  cases h with
  | any => cases ho
  | v => exact ho
  | agg => cases ho
  | tup => cases ho
  | fn => rfl
  | iface => rfl
  | mp => rfl
  | omp => rfl
  | rd => rfl
  | adr => rfl
  | own => rfl
  | own0 => rfl
  | ptr => rfl
/-- The cells of a datum that is stored. -/
def cellsD : D → List D
  | .agg cs => cs
  | d => [d]
theorem cellsD.val {K : Mem} {β : Nat → Nat → BT} {m : Bool} {v : Value} {d : D} (h : DR K β m v d) (ho : ((cellsD d).all oneD) = true) : v.cells.size = (cellsD d).length ∧ (∀ (j : Nat) u c, v.cells.toList[j]? = some u → (cellsD d)[j]? = some c → DR K β m u c) ∧ ∀ u ∈ v.cells.toList, u.oneCell' = true := by
  have one : ∀ {v : Value} {d : D}, DR K β m v d → v.cells = #[v] → cellsD d = [d] → oneD d = true → v.cells.size = (cellsD d).length ∧ (∀ (j : Nat) u c, v.cells.toList[j]? = some u → (cellsD d)[j]? = some c → DR K β m u c) ∧ ∀ u ∈ v.cells.toList, u.oneCell' = true := by
    intro v d h e1 e2 h1
    rw [e1, e2]
    refine ⟨rfl, fun j u c hu hc => ?_, fun u hu => ?_⟩
    · rcases j with _ | j
      · simp at hu hc; subst hu hc; exact h
      · simp at hu
    · simp at hu; subst hu; exact oneD.val h h1
  have hcells : ∀ {x : Value}, x.oneCell' = true → x.cells = #[x] := by
    intro x hx; cases x <;> first | rfl | cases hx
  cases h with
  | any => simp [cellsD, oneD] at ho
  | v x =>
    have h1 : v.oneCell' = true := by simpa [cellsD, oneD] using ho
    exact one (.v _ _) (hcells h1) rfl h1
  | agg _ us cs hl hd =>
    refine ⟨by simpa [Value.cells, cellsD] using hl, fun j u c hu hc => hd j u c (by simpa [Value.cells] using hu) hc, fun u hu => ?_⟩
    obtain ⟨j, hj⟩ := List.getElem?_of_mem hu
    have hj' : us[j]? = some u := by simpa [Value.cells] using hj
    have hlt : j < cs.length := by rw [← hl]; exact (List.getElem?_eq_some_iff.1 hj').1
    exact oneD.val (hd j u _ hj' (List.getElem?_eq_getElem hlt)) (List.all_eq_true.1 ho _ (List.getElem_mem hlt))
  | tup => simp [cellsD, oneD] at ho
  | fn _ f us cs hl hd => exact one (.fn _ f us cs hl hd) rfl rfl rfl
  | iface _ t u d hd => exact one (.iface _ t u d hd) rfl rfl rfl
  | mp _ r es ck ks cs hk hl hc hd => exact one (.mp _ r es ck ks cs hk hl hc hd) rfl rfl rfl
  | omp _ _ hr => exact one (.omp _ _ hr) rfl rfl rfl
  | rd _ _ _ _ us cs hn hl hc hd => exact one (.rd _ _ _ _ us cs hn hl hc hd) rfl rfl rfl
  | adr _ ad us cs hl hc hd => exact one (.adr _ ad us cs hl hc hd) rfl rfl rfl
  | own _ _ _ _ _ _ hn hm hc hr => exact one (.own _ _ _ _ _ _ hn hm hc hr) rfl rfl rfl
  | own0 _ _ _ hr => exact one (.own0 _ _ _ hr) rfl rfl rfl
  | ptr _ _ _ hr => exact one (.ptr _ _ _ hr) rfl rfl rfl
/-- Cells written over others. -/
def spl {α : Type} (cs : List α) (off : Nat) (ds : List α) : List α := cs.take off ++ ds ++ cs.drop (off + ds.length)
theorem spl_length {α : Type} {cs ds : List α} {off : Nat} (h : off + ds.length ≤ cs.length) : (spl cs off ds).length = cs.length := by unfold spl; simp; omega
theorem spl_get {α : Type} {cs ds : List α} {off : Nat} (h : off + ds.length ≤ cs.length) (j : Nat) : (spl cs off ds)[j]? = if j < off then cs[j]? else if j < off + ds.length then ds[j - off]? else cs[j]? := by
  unfold spl
  by_cases h1 : j < off
  · rw [if_pos h1, List.append_assoc, List.getElem?_append_left (by simp; omega), List.getElem?_take, if_pos h1]
  · rw [if_neg h1]
    by_cases h2 : j < off + ds.length
    · rw [if_pos h2, List.append_assoc, List.getElem?_append_right (by simp; omega), List.getElem?_append_left (by simp; omega)]
      congr 1; simp; omega
    · rw [if_neg h2, List.getElem?_append_right (by simp; omega), List.getElem?_drop]
      congr 1; simp; omega
theorem spl_one {α : Type} (cs : List α) (off : Nat) (d : α) (h : off < cs.length) : spl cs off [d] = cs.set off d := by
  apply List.ext_getElem?
  intro j
  rw [spl_get (by simp; omega), List.getElem?_set]
  by_cases h1 : j < off
  · rw [if_pos h1, if_neg (by omega)]
  · by_cases h2 : j < off + 1
    · have : j = off := by omega
      subst this; simp [h]
    · simp [h1, h2, show ¬ off = j by omega]
theorem spl_all {α : Type} (cs ds : List α) (h : ds.length = cs.length) : spl cs 0 ds = ds := by unfold spl; simp; omega

/-- Cells of a block of the call's own are written. -/
theorem WS.put {C : Ctx} {K : Mem} {β : Nat → Nat → BT} {H : Heap} {w : World} (h : WS C K β H w) {id : Nat} {b : Blk} (hb : H[id]? = some (some b)) (hrl : (β id b.ver).st = .cells) (cs' : List D) (us' rest' : List Value) (hl : us'.length = cs'.length) (ht : us'.length + rest'.length = (β id b.ver).tot) (hg : b.grow = false → rest' = [])
    (hd : ∀ (j : Nat) u d, us'[j]? = some u → cs'[j]? = some d → DR K β true u d) (ho : ∀ c ∈ cs', OkD H c) :
    WS C K β (H.set id (some { b with cs := cs' })) (w.setRow (β id b.ver).blk (us' ++ rest').toArray) := by
  obtain ⟨us, rest, hw, _⟩ := h.real hb hrl
  have hst := hrl
  replace hrl := BT.real_of hrl
  have hid : id < H.length := (List.getElem?_eq_some_iff.1 hb).1
  have split : ∀ {i : Nat} {x : Blk}, (H.set id (some { b with cs := cs' }))[i]? = some (some x) → (i = id ∧ x = { b with cs := cs' }) ∨ (i ≠ id ∧ H[i]? = some (some x)) := by
    intro i x hx
    rw [List.getElem?_set] at hx
    by_cases e : id = i
    · rw [if_pos e, if_pos hid] at hx; simp at hx; exact .inl ⟨e.symm, hx.symm⟩
    · rw [if_neg e] at hx; exact .inr ⟨Ne.symm e, hx⟩
  have hne : ∀ {i : Nat} {x : Blk}, H[i]? = some (some x) → (β i x.ver).real = true → i ≠ id → (β i x.ver).blk ≠ (β id b.ver).blk := fun hx hri hi he => hi (h.inj _ _ _ _ hx hb hri hrl he)
  refine ⟨fun b' c hc => ?_, fun i x hx => ?_, fun i x hx c hc => ?_, fun i j x y hx hy hri hrj he => ?_, fun i x hx hr => ?_, fun i x hx hr => ?_, by rw [setRow_size]; exact h.size, ?_, h.agr, h.hle.trans (HLe.set hb (Nat.le_refl _)), h.kle⟩
  · have hne : b' ≠ (β id b.ver).blk := by intro e; subst e; rw [h.apart id b hb hrl] at hc; cases hc
    rw [setRow_other _ _ _ _ hne]; exact h.holds b' c hc
  · rcases split hx with ⟨rfl, rfl⟩ | ⟨hi, hx⟩
    · unfold BlkR; simp only [hst]; exact ⟨us', rest', setRow_heap _ _ _ _ _ _ hw, hl, ht, hg, hd⟩
    · exact (h.blk i x hx).other fun hr => setRow_other _ _ _ _ (hne hx hr hi)
  · have hle : HLe H (H.set id (some { b with cs := cs' })) := HLe.set hb (Nat.le_refl _)
    rcases split hx with ⟨rfl, rfl⟩ | ⟨hi, hx⟩
    · exact (ho c hc).mono hle
    · exact (h.ok i x hx c hc).mono hle
  · rcases split hx with ⟨rfl, rfl⟩ | ⟨hi, hx1⟩ <;> rcases split hy with ⟨hj, rfl⟩ | ⟨hj, hy1⟩
    · exact hj.symm
    · exact absurd he.symm (hne hy1 hrj hj)
    · subst hj; exact absurd he (hne hx1 hri hi)
    · exact h.inj i j x y hx1 hy1 hri hrj he
  · rcases split hx with ⟨rfl, rfl⟩ | ⟨hi, hx⟩
    · exact h.apart _ b hb hr
    · exact h.apart i x hx hr
  · rcases split hx with ⟨rfl, rfl⟩ | ⟨hi, hx⟩
    · exact h.base _ b hb hr
    · exact h.base i x hx hr
  · exact h.below.other (h.base _ _ hb hrl) rfl rfl rfl (by rw [setRow_size]; exact Nat.le_refl _) fun k hk => setRow_other _ _ _ _ hk
theorem add_lit (b off j : Nat) : (⟨b, off, none⟩ : Addr).add j = ⟨b, off + j, none⟩ := by unfold Addr.add; split <;> simp_all
theorem cell_at {w : World} {b : Nat} {cs : List Value} {e : TypeId} {f : Nat × Nat} (h : w.heap[b]? = some (.cells cs.toArray e f)) (j : Nat) : w.cell? ⟨b, j, none⟩ = cs[j]? := by
  unfold World.cell?; rw [h]; simp

/-- A type whose values have one cell. -/
def flat : TypeDesc → Bool
  | .struct _ | .array _ _ => false
  | _ => true
theorem run_isAgg_flat {P : Program} {t : TypeId} {d : TypeDesc} (h : P.underlying t = some d) (hf : flat d = true) (w : World) : (isAgg t).run P w = .ok false w := by
  cases d <;> first | (simp [flat] at hf; done) | simp [isAgg, run_underlying h]
theorem run_isAgg_deep {P : Program} {t : TypeId} {d : TypeDesc} (h : P.underlying t = some d) (hf : flat d = false) (w : World) : (isAgg t).run P w = .ok true w := by
  cases d <;> first | (simp [flat] at hf; done) | simp [isAgg, run_underlying h]
section
variable {P : Program} {C : Ctx} {env : Nat → D} {H : Heap} {dst : Option Nat} {ty : TypeId} {pos : String} {after : Array Edge} {gu : Option (Nat × Bool)} {x y z : Operand} {t e : TypeId} {td : TypeDesc}
/-- A load of one cell that stays. -/
theorem o_load_adr {d : D} {cs : List D} (hx : ev env x = .adr cs) (ht : P.underlying t = some td) (hf : flat td = true) (hd : cs[0]? = some d) : OpD P C ⟨dst, .load t x, ty, pos, after, gu⟩ env H d H := by
  refine OpD.same fun K β a w hw hx' _ => ?_
  have h := hx' x (by simp [Op.operands])
  rw [hx] at h
  obtain ⟨ad, us, e, hl, hc, hr⟩ := h.adr_inv
  have hlt : 0 < us.length := by rw [hl]; exact (List.getElem?_eq_some_iff.1 hd).1
  have hu : us[0]? = some us[0] := List.getElem?_eq_getElem hlt
  have hcell : w.cell? ad = some us[0] := by have := hw.cell (hc 0 _ hu); simpa [Addr.add] using this
  have hp := hr 0 _ _ hu hd
  refine ⟨us[0], ?_, hp.up rfl, hp.okp rfl⟩
  simp [execOp, e, Instr.loadAt, Instr.sureAddr, loadVar, run_isAgg_flat ht hf, load, Sem.run, hcell]
/-- A load of one cell of a block of the call's own. -/
theorem o_load_ptr {d : D} {id ver off : Nat} {b : Blk} (hx : ev env x = .ptr id ver off) (ht : P.underlying t = some td) (hf : flat td = true) (hb : H[id]? = some (some b)) (hv : b.ver = ver) (hd : b.cs[off]? = some d) : OpD P C ⟨dst, .load t x, ty, pos, after, gu⟩ env H d H := by
  subst hv
  refine OpD.same fun K β a w hw hx' _ => ?_
  have h := hx' x (by simp [Op.operands])
  rw [hx] at h
  obtain ⟨e, hrl⟩ := h.ptr_inv
  obtain ⟨us, rest, hh, hl, _, _, hr⟩ := hw.real hb hrl
  have hlt : off < us.length := by rw [hl]; exact (List.getElem?_eq_some_iff.1 hd).1
  have hu : us[off]? = some us[off] := List.getElem?_eq_getElem hlt
  have hcell : w.cell? ⟨(β id b.ver).blk, off, none⟩ = some us[off] := by rw [cell_at hh, List.getElem?_append_left hlt]; exact hu
  refine ⟨us[off], ?_, hr off _ _ hu hd, hw.ok id b hb d (List.mem_of_getElem? hd)⟩
  simp [execOp, e, Instr.loadAt, Instr.sureAddr, loadVar, run_isAgg_flat ht hf, load, Sem.run, hcell]
/-- A load of a struct or an array that stays. -/
theorem o_load_adr_agg {cs : List D} {n : Nat} (hx : ev env x = .adr cs) (ht : P.underlying t = some td) (hf : flat td = false) (hi : (P.info? t).map (·.size) = some n) (hn : n ≤ cs.length) : OpD P C ⟨dst, .load t x, ty, pos, after, gu⟩ env H (.agg (cs.take n)) H := by
  refine OpD.same fun K β a w hw hx' _ => ?_
  have h := hx' x (by simp [Op.operands])
  rw [hx] at h
  obtain ⟨ad, us, e, hl, hc, hr⟩ := h.adr_inv
  obtain ⟨i, hi', hi2⟩ := Option.map_eq_some_iff.1 hi
  have hrun : (loadCells ad n).run P w = .ok (us.take n).toArray w := by
    have := run_loadCells_list (P := P) w ad (us.take n) fun j v hv => by
      rw [List.getElem?_take] at hv
      split at hv
      · exact hw.cell (hc j v hv)
      · cases hv
    rwa [List.length_take, Nat.min_eq_left (by omega)] at this
  have hp : DR K β false (.agg (us.take n).toArray) (.agg (cs.take n)) := .agg _ _ _ (by simp; omega) fun j u d hu hd => by
    rw [List.getElem?_take] at hu hd
    split at hu
    · rw [if_pos (by assumption)] at hd; exact hr j u d hu hd
    · cases hu
  refine ⟨_, ?_, hp.up rfl, hp.okp rfl⟩
  simp [execOp, e, Instr.loadAt, Instr.sureAddr, loadVar, run_isAgg_deep ht hf, sizeOf, typeInfo, hi', hi2, hrun]
/-- A load of a struct or an array of the call's own. -/
theorem o_load_ptr_agg {id ver off n : Nat} {b : Blk} (hx : ev env x = .ptr id ver off) (ht : P.underlying t = some td) (hf : flat td = false) (hi : (P.info? t).map (·.size) = some n) (hb : H[id]? = some (some b)) (hv : b.ver = ver) (hn : off + n ≤ b.cs.length) :
    OpD P C ⟨dst, .load t x, ty, pos, after, gu⟩ env H (.agg ((b.cs.drop off).take n)) H := by
  subst hv
  refine OpD.same fun K β a w hw hx' _ => ?_
  have h := hx' x (by simp [Op.operands])
  rw [hx] at h
  obtain ⟨e, hrl⟩ := h.ptr_inv
  obtain ⟨us, rest, hh, hl, _, _, hr⟩ := hw.real hb hrl
  obtain ⟨i, hi', hi2⟩ := Option.map_eq_some_iff.1 hi
  have hrun : (loadCells ⟨(β id b.ver).blk, off, none⟩ n).run P w = .ok ((us.drop off).take n).toArray w := by
    have := run_loadCells_list (P := P) w ⟨(β id b.ver).blk, off, none⟩ ((us.drop off).take n) fun j v hv => by
      rw [List.getElem?_take] at hv
      split at hv
      · rw [List.getElem?_drop] at hv
        rw [add_lit, cell_at hh, List.getElem?_append_left (List.getElem?_eq_some_iff.1 hv).1]; exact hv
      · cases hv
    rwa [List.length_take, List.length_drop, Nat.min_eq_left (by omega)] at this
  refine ⟨_, ?_, .agg _ ((us.drop off).take n) _ (by simp; omega) fun j u d hu hd => ?_, .agg _ fun c hc => hw.ok id b hb c (List.mem_of_mem_drop (List.mem_of_mem_take hc))⟩
  · simp [execOp, e, Instr.loadAt, Instr.sureAddr, loadVar, run_isAgg_deep ht hf, sizeOf, typeInfo, hi', hi2, hrun]
  · rw [List.getElem?_take] at hu hd
    split at hu
    · rw [if_pos (by assumption)] at hd
      rw [List.getElem?_drop] at hu hd
      exact hr _ u d hu hd
    · cases hu
/-- A store into a block of the call's own. -/
theorem o_store {id ver off : Nat} {b : Blk} {d : D} (hx : ev env x = .ptr id ver off) (hy : ev env y = d) (hb : H[id]? = some (some b)) (hv : b.ver = ver) (hi : (P.info? t).map (·.size) = some (cellsD d).length) (hn : off + (cellsD d).length ≤ b.cs.length) (h1 : (cellsD d).all oneD = true) :
    OpD P C ⟨dst, .store t x y, ty, pos, after, gu⟩ env H (.v undef) (H.set id (some { b with cs := spl b.cs off (cellsD d) })) := by
  subst hv
  refine OpD.ofSkip (HLe.set hb (Nat.le_refl _)) fun K β a w hw hx' hk => ?_
  have h := hx' x (by simp [Op.operands])
  have hyv := hx' y (by simp [Op.operands])
  have hyk := hk y (by simp [Op.operands])
  rw [hx] at h
  rw [hy] at hyv hyk
  obtain ⟨e, hrl⟩ := h.ptr_inv
  obtain ⟨us, rest, hh, hl, htot, hg, hr⟩ := hw.real hb hrl
  obtain ⟨i, hi', hi2⟩ := Option.map_eq_some_iff.1 hi
  obtain ⟨c1, c2, c3⟩ := cellsD.val hyv h1
  have hst := run_storeCells_at (P := P) (β id b.ver).blk off b.e (a.eval y).cells.toList 0 (us ++ rest).toArray w hh (by simp; omega) c3
  have hlen : (a.eval y).cells.toList.length = (cellsD d).length := by simpa using c1
  have hcs : ((us ++ rest).toArray.toList.take (off + 0) ++ (a.eval y).cells.toList ++ (us ++ rest).toArray.toList.drop (off + 0 + (a.eval y).cells.toList.length)).toArray = (spl us off (a.eval y).cells.toList ++ rest).toArray := by
    congr 1
    simp only [Nat.add_zero, spl]
    rw [List.take_append_of_le_length (by omega), List.drop_append_of_le_length (by omega), List.append_assoc _ _ rest]
  rw [hcs] at hst
  refine ⟨K, β, _, ?_, KX.refl _ _, Agr.refl _ _, hw.put hb hrl (spl b.cs off (cellsD d)) (spl us off (a.eval y).cells.toList) rest ?_ ?_ hg (fun j u c hu hc => ?_) fun c hc => ?_⟩
  · simp [execOp, e, Instr.storeAt, Instr.sureAddr, storeVar, sizeOf, typeInfo, hi', hi2, c1, hst]
  · rw [spl_length (by omega), spl_length (by omega)]; exact hl
  · rw [spl_length (by omega)]; exact htot
  · rw [spl_get (by omega)] at hu hc
    by_cases h1 : j < off
    · rw [if_pos h1] at hu hc; exact hr j u c hu hc
    · rw [if_neg h1] at hu hc
      rw [hlen] at hu
      by_cases h2 : j < off + (cellsD d).length
      · rw [if_pos h2] at hu hc; exact c2 _ u c hu hc
      · rw [if_neg h2] at hu hc; exact hr j u c hu hc
  · unfold spl at hc
    rcases List.mem_append.1 hc with hc | hc
    · rcases List.mem_append.1 hc with hc | hc
      · exact hw.ok id b hb c (List.mem_of_mem_take hc)
      · cases d <;> first
          | (simp [cellsD] at hc; subst hc; exact hyk)
          | (cases hyk with | agg _ h => exact h c hc)
    · exact hw.ok id b hb c (List.mem_of_mem_drop hc)
end
end Go.DL
