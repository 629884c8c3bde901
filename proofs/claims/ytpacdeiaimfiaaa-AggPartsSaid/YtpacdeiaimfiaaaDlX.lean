/-
  A logic of data for the walks: operations whose operands are exact; cuts, strings and appends of rows of the call's own; appends of strings; how a function ends that keeps all blocks. Plain lemmas over any program; no condition.
-/
import Derived.Test.YtpacdeiaimfiaaaDlV
import Derived.Test.YtpacdeiaimfiaaaDlW
import Derived.Lib.AppendStr
set_option linter.unusedSimpArgs false
set_option linter.unusedVariables false
namespace Go.DL
open Go.RowKit

/-! ### Operations on exact values -/
def peval {α : Type} (P : Program) : Sem α → Option α
  | .pure a => some a
  | .program k => peval P (k P)
  | .mark _ k => peval P k
  | _ => none
theorem peval_run {α : Type} {P : Program} {w : World} : ∀ {s : Sem α} {a : α}, peval P s = some a → s.run P w = .ok a w
  | .pure _, _, h => by simp only [peval, Option.some.injEq] at h; subst h; rfl
  | .program k, a, h => by
    have := peval_run (w := w) (s := k P) (a := a) (by simpa only [peval] using h)
    exact this
  | .mark _ k, a, h => by
    have := peval_run (w := w) (s := k) (a := a) (by simpa only [peval] using h)
    exact this
  | .load .., _, h => by cases h
  | .store .., _, h => by cases h
  | .new .., _, h => by cases h
  | .shape .., _, h => by cases h
  | .freeze .., _, h => by cases h
  | .frozen .., _, h => by cases h
  | .getObj .., _, h => by cases h
  | .setObj .., _, h => by cases h
  | .choose .., _, h => by cases h
  | .sys .., _, h => by cases h
  | .halt _, _, h => by cases h
section
variable {P : Program} {C : Ctx} {env env' : Nat → D} {H H' : Heap} {o : Oper} {d : D}
theorem o_pureG (r : Value) (hv : (o.op.operands.toList.all fun x => isV (ev env x)) = true) (hs : noSel o.op = true) (h : peval P (execOp (vals env) o) = some (.value r)) : OpD P C o env H (.v r) H := by
  refine OpD.same fun K β a w hw hx _ => ⟨r, ?_, .v _ _, .v _⟩
  have e : execOp a.eval o = execOp (vals env) o := by
    refine execOp_congr o (fun cs b h => by rw [h] at hs; cases hs) fun x hx' => ?_
    have h1 := hx x hx'
    have h2 := List.all_eq_true.1 hv x (by simpa using hx')
    unfold vals
    cases hd : ev env x with
    | v y => rw [hd] at h1; exact h1.v_inv
    | _ => rw [hd] at h2; cases h2
  rw [e]; exact peval_run h
/-- What an operand reads as may be told otherwise: nil as a row of nothing. -/
theorem OpD.weak (h : OpD P C o env' H d H') (hw : ∀ x ∈ o.op.operands, ArgIs (ev env x) (ev env' x)) : OpD P C o env H d H' :=
  ⟨h.len, fun K β a w Kc Q hws hx hk hn => h.go K β a w Kc Q hws (fun x hx' => (hx x hx').arg (hw x hx')) (fun x hx' => by
    rcases hw x hx' with e | ⟨_, e⟩
    · rw [← e]; exact hk x hx'
    · rw [e]; exact .rd _ _) hn⟩
theorem OpD.x (h : OpD P C o env H d H') : OpX P C o env H fun r H'' => r = .ret d ∧ H'' = H' :=
  ⟨fun K β a w Kc Q hw hx hk hn _ => h.go K β a w Kc Q hw hx hk fun K' β' v w' h1 h2 h3 h4 h5 => hn K' β' v w' d H' ⟨rfl, rfl⟩ ⟨h1, h2, h.len⟩ h3 h4 h5⟩
end

/-! ### Cuts of rows of the call's own; strings of parts of them -/
section
variable {P : Program} {C : Ctx} {env : Nat → D} {H : Heap} {dst : Option Nat} {ty t t' e : TypeId} {pos : String} {after : Array Edge} {gu : Option (Nat × Bool)} {X Y : Operand}
theorem cut_bounds {K : Mem} {β : Nat → Nat → BT} {a : Act} {lo hi n : Nat} {yl yh : Option Operand} (hl : bnd env lo yl) (hh : bndH env n hi yh) (h : ∀ x ∈ (Op.slice t X yl yh none).operands, DR K β true (a.eval x) (ev env x)) :
    ((yl.map a.eval = none ∧ lo = 0) ∨ ∃ k, yl.map a.eval = some (.int k (lo : Int))) ∧ ((yh.map a.eval = none ∧ hi = n) ∨ ∃ k, yh.map a.eval = some (.int k (hi : Int))) := by
  constructor
  · cases yl with
    | none => exact .inl ⟨rfl, hl⟩
    | some y =>
      obtain ⟨k, e⟩ := hl
      have := h y (by simp [Op.operands])
      rw [e] at this
      exact .inr ⟨k, by simp [this.v_inv]⟩
  · cases yh with
    | none => exact .inl ⟨rfl, hh⟩
    | some y =>
      obtain ⟨k, e⟩ := hh
      have := h y (by simp [Op.operands])
      rw [e] at this
      exact .inr ⟨k, by simp [this.v_inv]⟩
theorem run_cutO {w : World} {a : Act} {A : Option Addr} {n c lo hi sz : Nat} {yl yh : Option Operand} (ht : P.underlying t = some (.slice e)) (hi' : (P.info? e).map (·.size) = some sz) (eX : a.eval X = .slice A n c)
    (hb : ((yl.map a.eval = none ∧ lo = 0) ∨ ∃ k, yl.map a.eval = some (.int k (lo : Int))) ∧ ((yh.map a.eval = none ∧ hi = n) ∨ ∃ k, yh.map a.eval = some (.int k (hi : Int)))) (h1 : lo ≤ hi) (h2 : hi ≤ c) :
    (execOp a.eval ⟨dst, .slice t X yl yh none, ty, pos, after, gu⟩).run P w = .ok (.value (.slice (if c = lo then A else A.map (·.add (lo * sz))) (hi - lo) (c - lo))) w := by
  have := run_cut (P := P) (w := w) (A := A) ht hi' hb.1 hb.2 h1 h2
  simp only [execOp, eX, Sem.run_bind, Option.map_none, this, Result.andThen_ok, Sem.run_pure]
theorem o_cut_own {id ver off n sz lo hi : Nat} {yl yh : Option Operand} (hx : ev env X = .own id ver off n sz) (hl : bnd env lo yl) (hh : bndH env n hi yh) (ht : P.underlying t = some (.slice e)) (hi' : (P.info? e).map (·.size) = some sz) (h0 : lo = 0 ∨ lo < hi) (h1 : lo ≤ hi) (h2 : hi ≤ n) :
    OpD P C ⟨dst, .slice t X yl yh none, ty, pos, after, gu⟩ env H (.own id ver (off + lo * sz) (hi - lo) sz) H := by
  refine OpD.same fun K β a w hw h hk => ?_
  have hv := h X (by simp [Op.operands])
  have hkx := hk X (by simp [Op.operands])
  rw [hx] at hv hkx
  have hok : okV H id ver := by cases hkx with | own _ _ _ _ _ h => exact h
  have hB := cut_bounds (K := K) (β := β) (a := a) (t := t) hl hh h
  rcases hv.own_inv with ⟨c, e1, hnc, hm, htot, hr⟩ | ⟨e1, ho, hn0, hr⟩
  · refine ⟨_, run_cutO ht hi' e1 hB h1 (Nat.le_trans h2 hnc), ?_, .own _ _ _ _ _ hok⟩
    by_cases hc : c = lo
    · have hlo : lo = 0 := by rcases h0 with h | h <;> omega
      subst hlo; subst hc
      have hn : n = 0 := by omega
      have hhi : hi = 0 := by omega
      subst hn; subst hhi
      rw [if_pos rfl]
      have := DR.own (K := K) (β := β) id ver (off + 0 * sz) 0 sz 0 (Nat.le_refl _) (Nat.zero_le _) (by simpa using htot) hr
      simpa using this
    · rw [if_neg hc]
      simp only [Option.map_some, add_lit]
      refine .own _ _ _ _ _ _ (by omega) (by omega) ?_ hr
      rw [← htot, Nat.sub_mul, Nat.add_assoc]
      congr 1
      exact Nat.add_sub_cancel' (Nat.mul_le_mul_right _ (by omega))
  · subst hn0; subst ho
    have hhi : hi = 0 := by omega
    have hlo : lo = 0 := by omega
    subst hhi; subst hlo
    refine ⟨_, run_cutO ht hi' e1 hB (Nat.le_refl _) (Nat.le_refl _), ?_, .own _ _ _ _ _ hok⟩
    have := DR.own0 (K := K) (β := β) id ver sz hr
    simpa using this
theorem o_cut_empty {id ver off n sz sz' lo : Nat} {yl yh : Option Operand} (hx : ev env X = .own id ver off n sz') (hl : bnd env lo yl) (hh : bndH env n lo yh) (ht : P.underlying t = some (.slice e)) (hi' : (P.info? e).map (·.size) = some sz) (h2 : lo ≤ n) :
    OpD P C ⟨dst, .slice t X yl yh none, ty, pos, after, gu⟩ env H (.rd 0 []) H := by
  refine OpD.same fun K β a w hw h hk => ?_
  have hv := h X (by simp [Op.operands])
  rw [hx] at hv
  have hB := cut_bounds (K := K) (β := β) (a := a) (t := t) hl hh h
  obtain ⟨A, c, e1, hnc⟩ := hv.own_len
  refine ⟨_, run_cutO ht hi' e1 hB (Nat.le_refl _) (Nat.le_trans h2 hnc), ?_, .rd _ _⟩
  rw [Nat.sub_self]
  exact .rd _ _ 0 _ [] [] (Nat.zero_le _) rfl (by simp) (by simp)
theorem o_str_ownO {s : TypeId} {l : List UInt8} {id ver off n : Nat} {b : Blk} (hx : ev env X = .own id ver off n 1) (hb : H[id]? = some (some b)) (hv : b.ver = ver) (hl : (b.cs.drop off).take n = bytesD l) (hn : l.length = n) (hs : P.underlying t = some (.slice e)) (he : P.underlying e = some (.int .u8)) (hd : P.underlying s = some .string) :
    OpD P C ⟨dst, .convert t s X, ty, pos, after, gu⟩ env H (.v (.string (strB l))) H := by
  subst hv
  refine OpD.same fun K β ac w hw h _ => ⟨_, ?_, .v _ _, .v _⟩
  have h0 := h X (by simp [Op.operands])
  rw [hx] at h0
  obtain ⟨A, c, e1, hc⟩ : ∃ A c, ac.eval X = .slice A n c ∧ ∀ (j : Nat) x, l[j]? = some x → ∃ ad, A = some ad ∧ w.cell? (ad.add j) = some (.int .u8 (x.toNat : Int)) := by
    rcases h0.own_inv with ⟨c, e1, _, _, _, hr⟩ | ⟨e1, _, h0, hr⟩
    · obtain ⟨us, rest, hh, hlen, _, _, hd'⟩ := hw.real hb hr
      refine ⟨_, c, e1, fun j x hx => ⟨_, rfl, ?_⟩⟩
      have hbj : ((b.cs.drop off).take n)[j]? = some (U8 x.toBitVec) := by rw [hl]; simp [bytesD, hx]
      rw [List.getElem?_take] at hbj
      split at hbj
      · rw [List.getElem?_drop] at hbj
        have hlt : off + j < us.length := by rw [hlen]; exact (List.getElem?_eq_some_iff.1 hbj).1
        have := (hd' (off + j) us[off + j] _ (List.getElem?_eq_getElem hlt) hbj).v_inv
        rw [add_lit, cell_at hh, List.getElem?_append_left hlt, List.getElem?_eq_getElem hlt, this]; rfl
      · cases hbj
    · subst h0
      have : l = [] := List.eq_nil_of_length_eq_zero hn
      subst this
      exact ⟨_, _, e1, by simp⟩
  have := run_str (P := P) (w := w) (A := A) (c := c) (l := l) (n := n) hs he hd hn hc
  simp only [execOp, e1, Sem.run_bind, this, Result.andThen_ok, Sem.run_pure]
end

/-! ### Appends, whatever is appended -/
section
variable {P : Program} {C : Ctx} {env : Nat → D} {H : Heap} {dst : Option Nat} {ty t t' e : TypeId} {pos : String} {after : Array Edge} {gu : Option (Nat × Bool)} {X Y : Operand}
/-- What is appended: so many elements, these cells. -/
def Src (P : Program) (C : Ctx) (t t' ty e : TypeId) (sz bytes : Nat) (H : Heap) (dy : D) (m : Nat) (cs' : List D) : Prop :=
  ∀ K β w x, WS C K β H w → DR K β true x dy → OkD H dy → ∃ news : List Value, news.length = m * sz ∧ news.length = cs'.length ∧ (∀ (j : Nat) u d, news[j]? = some u → cs'[j]? = some d → DR K β true u d) ∧ (∀ d ∈ cs', OkD H d) ∧
    ∀ v n xs, w.ownsRow 0 e sz v n xs → n + m ≤ maxLen → (n + m) * bytes ≤ 140737488355328 → ∃ u' w', (Builtin.append_ #[t, t'] ty #[v, x]).run P w = .ok u' w' ∧ w'.ownsRow 0 e sz u' (n + m) (xs ++ news) ∧ w.grownBy w' v.ownBlock ∧ (u'.ownBlock = v.ownBlock ∨ u'.ownBlock = some w.heap.size)
theorem app_core {v' : Nat} {K : Mem} {β : Nat → Nat → BT} {w : World} {id ver n sz m : Nat} {b : Blk} {cs' : List D} {v x : Value} (hw : WS C K β H w) (hv : DR K β true v (.own id ver 0 n sz)) (hb : H[id]? = some (some b)) (hver : b.ver = ver) (hv' : ver < v') (hn : n * sz ≤ b.cs.length)
    (news : List Value) (hl : news.length = m * sz) (hds : news.length = cs'.length) (hdr : ∀ (j : Nat) u d, news[j]? = some u → cs'[j]? = some d → DR K β true u d) (hok : ∀ d ∈ cs', OkD H d)
    (hrunX : ∀ xs, w.ownsRow 0 b.e sz v n xs → ∃ u' w', (Builtin.append_ #[t, t'] ty #[v, x]).run P w = .ok u' w' ∧ w'.ownsRow 0 b.e sz u' (n + m) (xs ++ news) ∧ w.grownBy w' v.ownBlock ∧ (u'.ownBlock = v.ownBlock ∨ u'.ownBlock = some w.heap.size)) :
    ∃ u' w' t1, (Builtin.append_ #[t, t'] ty #[v, x]).run P w = .ok u' w' ∧ WS C K (addB β id v' t1) (H.set id (some ⟨b.cs.take (n * sz) ++ cs', b.e, true, v'⟩)) w' ∧ DR K (addB β id v' t1) true u' (.own id v' 0 (n + m) sz) := by
  subst hver
  have hrows : ∃ xs : List Value, w.ownsRow 0 b.e sz v n xs ∧ xs.length = n * sz ∧ (∀ (j : Nat) u d, xs[j]? = some u → (b.cs.take (n * sz))[j]? = some d → DR K β true u d) ∧ (∀ k, v.ownBlock = some k → (β id b.ver).real = true ∧ k = (β id b.ver).blk) := by
    rcases hv.own_inv with ⟨c, rfl, hnc, hm, htot, hr⟩ | ⟨rfl, _, h0, hr⟩
    · obtain ⟨us, rest, hh, hlen, htot', _, hd⟩ := hw.real hb hr
      refine ⟨us.take (n * sz), ⟨by rw [List.length_take]; omega, .inr ⟨_, c, _, rfl, Nat.zero_le _, hh, hnc, hm, by simp; omega, ?_⟩⟩, by rw [List.length_take]; omega, fun j u d hu hd' => ?_, fun k hk => ?_⟩
      · simp only []
        rw [List.take_append_of_le_length (by omega)]
      · rw [List.getElem?_take] at hu hd'
        split at hu
        · rw [if_pos (by assumption)] at hd'; exact hd j u d hu hd'
        · cases hu
      · simp [Value.ownBlock] at hk; exact ⟨BT.real_of hr, hk.symm⟩
    · subst h0
      exact ⟨[], ⟨by simp, .inl ⟨rfl, rfl⟩⟩, by simp, by simp, fun k hk => by simp [Value.ownBlock] at hk⟩
  obtain ⟨xs, hown, hxl, hxd, hblk⟩ := hrows
  obtain ⟨u', w', hrun, hown', hgrow, hat⟩ := hrunX xs hown
  have hcells : (xs ++ news).length = (b.cs.take (n * sz) ++ cs').length := by rw [List.length_append, List.length_append, List.length_take]; omega
  have hcd : ∀ (j : Nat) u d, (xs ++ news)[j]? = some u → (b.cs.take (n * sz) ++ cs')[j]? = some d → DR K β true u d := by
    intro j u d hu hd
    have hlt : (b.cs.take (n * sz)).length = n * sz := by rw [List.length_take]; omega
    by_cases hj : j < n * sz
    · rw [List.getElem?_append_left (by omega)] at hu hd; exact hxd j u d hu hd
    · rw [List.getElem?_append_right (by omega), hxl] at hu
      rw [List.getElem?_append_right (by omega), hlt] at hd
      exact hdr _ u d hu hd
  have hoc : ∀ d ∈ b.cs.take (n * sz) ++ cs', OkD H d := by
    intro d hd
    rcases List.mem_append.1 hd with hd | hd
    · exact hw.ok id b hb d (List.mem_of_mem_take hd)
    · exact hok d hd
  rcases hown'.2 with ⟨rfl, h0⟩ | ⟨g, cap, cur, rfl, hBg, hheap, hncap, hmax, hcur, htake⟩
  · have hn0 : n = 0 := by omega
    have hm0 : m = 0 := by omega
    subst hn0 hm0
    have hcs0 : cs' = [] := List.eq_nil_of_length_eq_zero (by rw [← hds, hl]; simp)
    subst hcs0
    refine ⟨_, w', ⟨0, 0, .none⟩, hrun, ?_, ?_⟩
    · exact hw.grow hb hv' hgrow hblk _ ⟨0, 0, .none⟩ (.inl ⟨rfl, by simp⟩) hoc
    · exact .own0 _ _ _ (by rw [addB_at])
  · refine ⟨_, w', ⟨g, cap * sz, .cells⟩, hrun, ?_, ?_⟩
    · refine hw.grow hb hv' hgrow hblk _ ⟨g, cap * sz, .cells⟩ (.inr ⟨rfl, ?_, xs ++ news, cur.toList.drop ((n + m) * sz), ?_, hcells, ?_, hcd⟩) hoc
      · rcases hat with h | h
        · exact .inl (by rw [← h]; rfl)
        · simp [Value.ownBlock] at h; exact .inr h
      · rw [hheap, ← htake, List.take_append_drop]
      · have h5 : (n + m) * sz ≤ cap * sz := Nat.mul_le_mul_right _ hncap
        rw [← htake, List.length_take, List.length_drop, Array.length_toList, hcur]
        show min ((n + m) * sz) (cap * sz) + (cap * sz - (n + m) * sz) = cap * sz
        generalize (n + m) * sz = p at *
        generalize cap * sz = q at *
        omega
    · have := DR.own (K := K) (β := addB β id (v') ⟨g, cap * sz, .cells⟩) id (v') 0 (n + m) sz cap hncap hmax (by rw [addB_at]; simp) (by rw [addB_at])
      rw [addB_at] at this; exact this
/-- An append onto a row of the call's own. -/
theorem o_appG (v' : Nat) {id ver n sz bytes m : Nat} {b : Blk} {cs' : List D} {dy : D} (hx : ev env X = .own id ver 0 n sz) (hy : ev env Y = dy) (hS : Src P C t t' ty e sz bytes H dy m cs') (hb : H[id]? = some (some b)) (hver : b.ver = ver) (he : b.e = e) (hv' : ver < v') (hn : n * sz ≤ b.cs.length)
    (h63 : n + m ≤ 9223372036854775807) (hby : (n + m) * bytes ≤ 140737488355328) :
    OpD P C ⟨dst, .call { callee := .builtin .append, args := #[X, Y], argTypes := #[t, t'] }, ty, pos, after, gu⟩ env H (.own id v' 0 (n + m) sz) (H.set id (some ⟨b.cs.take (n * sz) ++ cs', e, true, v'⟩)) := by
  have hle : HLe H (H.set id (some ⟨b.cs.take (n * sz) ++ cs', e, true, v'⟩)) := HLe.set hb (by simp; omega)
  refine OpD.of hle fun K β ac w hw h hk => ?_
  have hxv := h X (by simp [Op.operands, Call.operands])
  have hyv := h Y (by simp [Op.operands, Call.operands])
  have hyk := hk Y (by simp [Op.operands, Call.operands])
  rw [hx] at hxv; rw [hy] at hyv hyk
  obtain ⟨news, l1, l2, l3, l4, l5⟩ := hS K β w _ hw hyv hyk
  subst he
  obtain ⟨u', w', t1, hrun, hws, hdr⟩ := app_core (P := P) (t := t) (t' := t') (ty := ty) (cs' := cs') hw hxv hb hver hv' hn news l1 l2 l3 l4 (fun xs h1 => l5 _ n xs h1 h63 hby)
  subst hver
  refine ⟨K, _, u', w', ?_, KX.refl _ _, addB_agr' hb hv', hws, hdr, .own _ _ _ _ _ ?_⟩
  · simp only [execOp, resolve, invoke, builtin, Sem.run_bind, Sem.run_pure, Result.andThen_ok, List.map_toArray, List.map_cons, List.map_nil, hrun]
  · unfold okV
    rw [List.getElem?_set, if_pos rfl, if_pos (List.getElem?_eq_some_iff.1 hb).1]
    exact Nat.le_refl _
theorem o_appGN {sz bytes m : Nat} {cs' : List D} {dy : D} (hx : ev env X = .v (.slice none 0 0)) (hy : ev env Y = dy) (hS : Src P C t t' ty e sz bytes H dy m cs') (h63 : m ≤ 9223372036854775807) (hby : m * bytes ≤ 140737488355328) :
    OpD P C ⟨dst, .call { callee := .builtin .append, args := #[X, Y], argTypes := #[t, t'] }, ty, pos, after, gu⟩ env H (.own H.length 1 0 m sz) (H ++ [some ⟨cs', e, true, 1⟩]) := by
  refine OpD.of (HLe.app _ _) fun K β ac w hw h hk => ?_
  have hxv := h X (by simp [Op.operands, Call.operands])
  have hyv := h Y (by simp [Op.operands, Call.operands])
  have hyk := hk Y (by simp [Op.operands, Call.operands])
  rw [hx] at hxv; rw [hy] at hyv hyk
  obtain ⟨news, l1, l2, l3, l4, l5⟩ := hS K β w _ hw hyv hyk
  have hw' := hw.newNil e
  have hat : (addB β H.length 0 ⟨0, 0, .none⟩) H.length 0 = ⟨0, 0, .none⟩ := addB_at
  have hb : (H ++ [some (⟨[], e, true, 0⟩ : Blk)])[H.length]? = some (some ⟨[], e, true, 0⟩) := by rw [List.getElem?_append_right (Nat.le_refl _)]; simp
  have hv0 : DR K (addB β H.length 0 ⟨0, 0, .none⟩) true (.slice none 0 0) (.own H.length 0 0 0 sz) := .own0 _ _ _ (by rw [hat])
  obtain ⟨u', w', t1, hrun, hws, hdr⟩ := app_core (P := P) (t := t) (t' := t') (ty := ty) (cs' := cs') (v' := 1) hw' hv0 hb rfl (Nat.zero_lt_one) (by simp) news l1 l2 (fun j u d hu hd => (l3 j u d hu hd).mono (Mem.le.refl K) (fun _ => l4 d (List.mem_of_getElem? hd)) addB_agr) (fun d hd => (l4 d hd).mono (HLe.app _ _))
    (fun xs h1 => l5 _ 0 xs h1 (by rw [Nat.zero_add]; exact h63) (by rw [Nat.zero_add]; exact hby))
  have hset : (H ++ [some (⟨[], e, true, 0⟩ : Blk)]).set H.length (some ⟨([] : List D).take (0 * sz) ++ cs', e, true, 1⟩) = H ++ [some ⟨cs', e, true, 1⟩] := by
    rw [List.set_append_right _ _ (Nat.le_refl _)]; simp
  rw [hset] at hws
  rw [Nat.zero_add] at hdr
  refine ⟨K, _, u', w', ?_, KX.refl _ _, fun i v hv => ?_, hws, hdr, .own _ _ _ _ _ (okV_new _ _)⟩
  · simp only [execOp, resolve, List.map_toArray, List.map_cons, List.map_nil, hxv.v_inv, invoke, builtin, Sem.run_bind, Sem.run_pure, Result.andThen_ok, hrun]
  · have hlt := hv.lt
    rw [addB_ne (.inl (by omega)), addB_ne (.inl (by omega))]
theorem Elem.parts {sz bytes : Nat} (E : Elem P t e sz bytes) {w : World} {A : Option Addr} {m c : Nat} {news : List Value} (hl : news.length = m * sz) (hcell : ∀ (j : Nat) u, news[j]? = some u → ∃ ad, A = some ad ∧ w.cell? (ad.add j) = some u) (h1 : ∀ u ∈ news, u.oneCell' = true)
    (v : Value) (n : Nat) (xs : List Value) (hown : w.ownsRow 0 e sz v n xs) (h63 : n + m ≤ maxLen) (hby : (n + m) * bytes ≤ 140737488355328) :
    ∃ u' w', (Builtin.append_ #[t, t] ty #[v, .slice A m c]).run P w = .ok u' w' ∧ w'.ownsRow 0 e sz u' (n + m) (xs ++ news) ∧ w.grownBy w' v.ownBlock ∧ (u'.ownBlock = v.ownBlock ∨ u'.ownBlock = some w.heap.size) := by
  obtain ⟨i, z, hi, hz, hsz, hbs, hzs⟩ := E.inf
  exact run_append_any (P := P) (w := w) 0 t ty e i z sz bytes E.ut hi hz hsz hbs hzs E.pos v n xs hown A m c news hl hcell h1 h63 hby (Nat.zero_le _)
theorem src_rd {sz bytes m : Nat} {cs' : List D} (E : Elem P t e sz bytes) (hm : cs'.length = m * sz) (h1 : ∀ d ∈ cs', oneD d = true) : Src P C t t ty e sz bytes H (.rd m cs') m cs' := by
  intro K β w x hw hyv _
  obtain ⟨A, c, us, rfl, hmc, hlen, hc, hd⟩ := hyv.rd_inv
  refine ⟨us, by omega, hlen, fun j u d hu hd' => (hd j u d hu hd').up rfl, fun d hd' => ?_, fun v n xs hown h63 hby => E.parts (by omega) (fun j u hu => let ⟨ad, h1, h2⟩ := hc j u hu; ⟨ad, h1, hw.cell h2⟩) (fun u hu => ?_) v n xs hown h63 hby⟩
  · obtain ⟨j, hj⟩ := List.getElem?_of_mem hd'
    have hlt : j < us.length := by rw [hlen]; exact (List.getElem?_eq_some_iff.1 hj).1
    exact (hd j _ d (List.getElem?_eq_getElem hlt) hj).okp rfl
  · obtain ⟨j, hj⟩ := List.getElem?_of_mem hu
    have hlt : j < cs'.length := by rw [← hlen]; exact (List.getElem?_eq_some_iff.1 hj).1
    exact oneD.val (hd j u _ hj (List.getElem?_eq_getElem hlt)) (h1 _ (List.getElem_mem hlt))
theorem src_own {sz bytes m id2 ver2 off : Nat} {b2 : Blk} {cs' : List D} (E : Elem P t e sz bytes) (hb2 : H[id2]? = some (some b2)) (hver2 : b2.ver = ver2) (hm2 : off + m * sz ≤ b2.cs.length) (hcs : (b2.cs.drop off).take (m * sz) = cs') (h1 : ∀ d ∈ cs', oneD d = true) :
    Src P C t t ty e sz bytes H (.own id2 ver2 off m sz) m cs' := by
  intro K β w x hw hyv _
  subst hver2 hcs
  have hok : ∀ d ∈ (b2.cs.drop off).take (m * sz), OkD H d := fun d hd' => hw.ok id2 b2 hb2 d (List.mem_of_mem_drop (List.mem_of_mem_take hd'))
  rcases hyv.own_inv with ⟨c, rfl, hmc, _, _, hr2⟩ | ⟨rfl, h2, h3, hr⟩
  · obtain ⟨us, rest, hh, hlen, _, _, hd⟩ := hw.real hb2 hr2
    refine ⟨(us.drop off).take (m * sz), by simp [hlen]; omega, by simp [hlen], fun j u d hu hd' => ?_, hok, fun v n xs hown h63 hby => E.parts (by simp [hlen]; omega) (fun j u hu => ⟨_, rfl, ?_⟩) (fun u hu => ?_) v n xs hown h63 hby⟩
    · rw [List.getElem?_take] at hu hd'
      split at hu
      · rw [if_pos (by assumption), List.getElem?_drop] at hd'
        rw [List.getElem?_drop] at hu
        exact hd _ u d hu hd'
      · cases hu
    · rw [List.getElem?_take] at hu
      split at hu
      · rw [List.getElem?_drop] at hu
        rw [add_lit, cell_at hh, List.getElem?_append_left (List.getElem?_eq_some_iff.1 hu).1]; exact hu
      · cases hu
    · obtain ⟨j, hj⟩ := List.getElem?_of_mem hu
      rw [List.getElem?_take] at hj
      split at hj
      · rename_i hlt
        rw [List.getElem?_drop] at hj
        have h2 : off + j < b2.cs.length := by rw [← hlen]; exact (List.getElem?_eq_some_iff.1 hj).1
        refine oneD.val (hd _ u _ hj (List.getElem?_eq_getElem h2)) (h1 _ ?_)
        exact List.mem_of_getElem? (show ((b2.cs.drop off).take (m * sz))[j]? = _ by rw [List.getElem?_take, if_pos hlt, List.getElem?_drop, List.getElem?_eq_getElem h2])
      · cases hj
  · have h0 := hw.nil hb2 hr
    subst h3
    refine ⟨[], by simp, by simp, by simp, hok, fun v n xs hown h63 hby => E.parts (by simp) (by simp) (by simp) v n xs hown h63 hby⟩
/-- Bytes of a string, behind a row that is owned: where the new row lies. -/
theorem run_append_str {u : TypeId} {w : World} {i : TypeInfo} (ht : P.underlying t = some (.slice e)) (hu : P.underlying u = some .string) (hi : P.info? e = some i) (hz : i.zero = some (.int .u8 0)) (hsize : i.size = 1) (hby : i.bytes = 1)
    (v : Value) (n : Nat) (xs : List Value) (hown : w.ownsRow 0 e 1 v n xs) (s : ByteArray) (h63 : n + s.size ≤ maxLen) (hbytes : n + s.size ≤ 140737488355328) :
    ∃ v' w', (Builtin.append_ #[t, u] ty #[v, .string s]).run P w = .ok v' w' ∧ w'.ownsRow 0 e 1 v' (n + s.size) (xs ++ Go.Lib.strCells s) ∧ w.grownBy w' v.ownBlock ∧ (v'.ownBlock = v.ownBlock ∨ v'.ownBlock = some w.heap.size) := by
  obtain ⟨v', w', h1, h2, h3, h4⟩ := Go.Lib.run_append_own_string (P := P) w 0 t u ty e i ht hu hi hz hsize hby v n xs hown s h63 hbytes (Nat.zero_le _)
  refine ⟨v', w', h1, h2, h3, ?_⟩
  have hsc := Go.Lib.strCells_length s
  have h63' : ((n + s.size : Nat) : Int) ≤ 9223372036854775807 := by simp only [maxLen] at h63; omega
  rcases hown.2 with ⟨rfl, rfl⟩ | ⟨g, cap, cur, rfl, hbg, hg, hnc, hcm, hcs, htake⟩
  · by_cases hs : s.size = 0
    · have := h4.2 ⟨rfl, hs⟩
      subst this; exact .inl rfl
    · have hn : ¬ (s.size ≤ 0) := by omega
      have h63'' : ¬ (9223372036854775807 < (s.size : Int)) := by omega
      have h48' : ¬ (281474976710656 < Builtin.nextslicecap s.size 0 * i.bytes) := by
        have := growslice_fits (need := s.size) (old := 0) (bytes := i.bytes) (by omega) (by rw [hby]; omega)
        omega
      have hf := Go.Lib.run_firstCells_string (P := P) w.drew i.size s
      have hf0 : (Builtin.firstCells i.size 0 (.slice none 0 0)).run P w.drew = .ok #[] w.drew := rfl
      simp [Builtin.append_, run_underlying ht, run_underlying hu, sizeOf, typeInfo, zeroValue, hi, hz, Builtin.lenOf, hn, hs, h63'', h48', Question.forced, hf, hf0, newRow] at h1
      obtain ⟨rfl, _⟩ := h1
      exact .inr rfl
  · by_cases hroom : n + s.size ≤ cap
    · have hr := Go.Lib.run_append_room_string (P := P) w t u ty e i ht hu hi hsize g n cap cur hg s hroom (by omega)
      rw [hr] at h1; cases h1; exact .inl rfl
    · have hr := Go.Lib.run_append_grow_string (P := P) w t u ty e i _ ht hu hi hz ⟨g, 0, none⟩ n cap xs (by rw [hsize]; exact hown.1) (hown.cells (g := g) rfl) s (by omega) h63' (by
        have := growslice_fits (need := n + s.size) (old := cap) (bytes := i.bytes) (by omega) (by rw [hby]; omega)
        omega)
      rw [hr] at h1; cases h1; exact .inr rfl
theorem src_str {l : List UInt8} (ht : P.underlying t = some (.slice e)) (hu : P.underlying t' = some .string) (hi : (P.info? e).map (fun i => (i.zero, i.size, i.bytes)) = some (some (.int .u8 0), 1, 1)) : Src P C t t' ty e 1 1 H (S l) l.length (bytesD l) := by
  intro K β w x hw hyv _
  obtain ⟨i, hi1, hi2, hi3, hi4⟩ := info_parts hi
  have hx := hyv.v_inv
  subst hx
  refine ⟨Go.Lib.strCells (strB l), by rw [Go.Lib.strCells_length, strB_size, Nat.mul_one], by rw [Go.Lib.strCells_length, strB_size, bytesD_len], fun j u d hu' hd => ?_, bytesD_ok l H, fun v n xs hown h63 hby => ?_⟩
  · simp only [Go.Lib.strCells, bytesD, List.getElem?_map] at hu' hd
    cases hj : l[j]? with
    | none => rw [hj] at hd; cases hd
    | some c =>
      rw [hj] at hd hu'
      simp only [Option.map_some, Option.some.injEq] at hd hu'
      subst hd hu'
      exact .v _ _
  · have := run_append_str (P := P) (ty := ty) (w := w) ht hu hi1 hi2 hi3 hi4 v n xs hown (strB l) (by rw [strB_size]; exact h63) (by rw [strB_size]; omega)
    rw [strB_size] at this
    exact this
end
end Go.DL
