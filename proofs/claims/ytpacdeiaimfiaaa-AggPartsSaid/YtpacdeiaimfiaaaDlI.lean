/-
  A logic of data for the walks: appends onto rows of the call's own, rows written out, calls that are lent what the caller owns. Plain lemmas over any program; no condition.
-/
import Derived.Test.YtpacdeiaimfiaaaDlH
set_option linter.unusedSimpArgs false
set_option linter.unusedVariables false
namespace Go.DL
open Go.RowKit

theorem addB_agr' {β : Nat → Nat → BT} {H : Heap} {id v' : Nat} {b : Blk} {t : BT} (hb : H[id]? = some (some b)) (hv' : b.ver < v') : Agr H β (addB β id v' t) := fun i u h => by
  refine addB_ne ?_
  by_cases e : i = id
  · subst e
    unfold okV at h
    rw [hb] at h
    exact .inr (by have : u ≤ b.ver := h; omega)
  · exact .inl e
/-- A row of the call's own has grown: it lies where it lay, or in a new block; or it is nil as yet. -/
theorem WS.grow {C : Ctx} {K : Mem} {β : Nat → Nat → BT} {H : Heap} {w w' : World} (h : WS C K β H w) {id v' : Nat} {b : Blk} (hb : H[id]? = some (some b)) (hv' : b.ver < v') {row : Option Nat} (hg : w.grownBy w' row)
    (hrow : ∀ k, row = some k → (β id b.ver).real = true ∧ k = (β id b.ver).blk) (cs' : List D) (t : BT)
    (ht : t.st = .none ∧ cs' = [] ∨ (t.st = .cells ∧ (row = some t.blk ∨ t.blk = w.heap.size) ∧ ∃ us rest : List Value, w'.heap[t.blk]? = some (.cells (us ++ rest).toArray b.e (0, 0)) ∧ us.length = cs'.length ∧ us.length + rest.length = t.tot ∧
      ∀ (j : Nat) u d, us[j]? = some u → cs'[j]? = some d → DR K β true u d)) (ho : ∀ c ∈ cs', OkD H c) :
    WS C K (addB β id (v') t) (H.set id (some ⟨cs', b.e, true, v'⟩)) w' := by
  have hid : id < H.length := (List.getElem?_eq_some_iff.1 hb).1
  have hag := addB_agr' (β := β) (t := t) hb hv'
  have hle : HLe H (H.set id (some ⟨cs', b.e, true, v'⟩)) := HLe.set hb (Nat.le_of_lt hv')
  have split : ∀ {i : Nat} {x : Blk}, (H.set id (some ⟨cs', b.e, true, v'⟩))[i]? = some (some x) → (i = id ∧ x = ⟨cs', b.e, true, v'⟩) ∨ (i ≠ id ∧ H[i]? = some (some x)) := by
    intro i x hx
    rw [List.getElem?_set] at hx
    by_cases e : id = i
    · rw [if_pos e, if_pos hid] at hx; simp at hx; exact .inl ⟨e.symm, hx.symm⟩
    · rw [if_neg e] at hx; exact .inr ⟨Ne.symm e, hx⟩
  have hne : ∀ {i : Nat} {v : Nat}, i ≠ id → addB β id (v') t i v = β i v := fun hi => addB_ne (.inl hi)
  have hat : addB β id (v') t id (v') = t := addB_at
  have hstay : ∀ {i : Nat} {x : Blk}, i ≠ id → H[i]? = some (some x) → (β i x.ver).real = true → w'.heap[(β i x.ver).blk]? = w.heap[(β i x.ver).blk]? := by
    intro i x hi hx hr
    refine hg.block _ (h.lt hx hr) fun e => ?_
    obtain ⟨h1, h2⟩ := hrow _ e.symm
    exact hi (h.inj _ _ _ _ hx hb hr h1 h2)
  have hnewne : ∀ {i : Nat} {x : Blk}, i ≠ id → H[i]? = some (some x) → (β i x.ver).real = true → t.real = true → (β i x.ver).blk ≠ t.blk := by
    intro i x hi hx hr htr e
    rcases ht with ⟨h0, _⟩ | ⟨_, h1, _⟩
    · rw [BT.real_none h0] at htr; cases htr
    · rcases h1 with h1 | h1
      · obtain ⟨h2, h3⟩ := hrow _ h1
        exact hi (h.inj _ _ _ _ hx hb hr h2 (e.trans h3))
      · have := h.lt hx hr; omega
  refine ⟨fun b' c hc => ?_, fun i x hx => ?_, fun i x hx c hc => ?_, fun i j x y hx hy hri hrj he => ?_, fun i x hx hr => ?_, fun i x hx hr => ?_, Nat.le_trans h.size hg.size, ?_, h.agr.up h.hle hag, h.hle.trans hle, h.kle⟩
  · have hh := h.holds b' c hc
    rw [hg.block _ (h.klt hc) fun e => ?_]
    · exact hh
    · obtain ⟨h1, h2⟩ := hrow _ e.symm
      rw [h2, h.apart id b hb h1] at hc; cases hc
  · rcases split hx with ⟨rfl, rfl⟩ | ⟨hi, hx⟩
    · rw [hat]
      unfold BlkR
      rcases ht with ⟨h0, h1⟩ | ⟨h0, _, us, rest, e, hl, htot, hd⟩
      · simp only [h0]; exact h1
      · simp only [h0]
        exact ⟨us, rest, e, hl, htot, (fun h => by simp at h), fun j u d hu hd' => (hd j u d hu hd').mono (Mem.le.refl K) (fun _ => ho d (List.mem_of_getElem? hd')) hag⟩
    · rw [hne hi]
      exact ((h.blk i x hx).mono (Mem.le.refl K) (h.ok i x hx) hag).other fun hr => hstay hi hx hr
  · rcases split hx with ⟨rfl, rfl⟩ | ⟨hi, hx⟩
    · exact (ho c hc).mono hle
    · exact (h.ok i x hx c hc).mono hle
  · rcases split hx with ⟨rfl, rfl⟩ | ⟨hi, hx1⟩ <;> rcases split hy with ⟨hj, rfl⟩ | ⟨hj, hy1⟩
    · exact hj.symm
    · rw [hat] at hri he
      rw [hne hj] at hrj he
      exact absurd he.symm (hnewne hj hy1 hrj hri)
    · subst hj
      rw [hat] at hrj he
      rw [hne hi] at hri he
      exact absurd he (hnewne hi hx1 hri hrj)
    · rw [hne hi] at hri he
      rw [hne hj] at hrj he
      exact h.inj i j x y hx1 hy1 hri hrj he
  · rcases split hx with ⟨rfl, rfl⟩ | ⟨hi, hx⟩
    · rw [hat] at hr ⊢
      rcases ht with ⟨h0, _⟩ | ⟨_, h1, _⟩
      · rw [BT.real_none h0] at hr; cases hr
      · rcases h1 with h1 | h1
        · obtain ⟨h2, h3⟩ := hrow _ h1
          rw [h3]; exact h.apart _ b hb h2
        · rw [h1]; exact h.fresh
    · rw [hne hi] at hr ⊢; exact h.apart i x hx hr
  · rcases split hx with ⟨rfl, rfl⟩ | ⟨hi, hx⟩
    · rw [hat] at hr ⊢
      rcases ht with ⟨h0, _⟩ | ⟨_, h1, _⟩
      · rw [BT.real_none h0] at hr; cases hr
      · rcases h1 with h1 | h1
        · obtain ⟨h2, h3⟩ := hrow _ h1
          rw [h3]; exact h.base _ b hb h2
        · rw [h1]; exact .inl h.size
    · rw [hne hi] at hr ⊢; exact h.base i x hx hr
  · exact h.below.grown hg h.size fun k hk => by
      obtain ⟨h1, h2⟩ := hrow k hk
      rw [h2]; exact h.base id b hb h1

/-- The element type of a slice type: so many cells, so many bytes. -/
structure Elem (P : Program) (t e : TypeId) (sz bytes : Nat) : Prop where
  ut : P.underlying t = some (.slice e)
  inf : ∃ i z, P.info? e = some i ∧ i.zero = some z ∧ i.size = sz ∧ i.bytes = bytes ∧ z.cells.size = sz
  pos : 0 < sz
theorem Elem.of {P : Program} {t e : TypeId} {sz bytes : Nat} {z : Value} (ut : P.underlying t = some (.slice e)) (hi : (P.info? e).map (fun i => (i.zero, i.size, i.bytes)) = some (some z, sz, bytes)) (hz : z.cells.size = sz) (hp : 0 < sz) : Elem P t e sz bytes := by
  obtain ⟨i, h1, h2, h3, h4⟩ := info_parts hi
  exact ⟨ut, ⟨i, z, h1, h2, h3, h4, hz⟩, hp⟩
section
variable {P : Program} {C : Ctx} {env : Nat → D} {H : Heap} {dst : Option Nat} {ty t t' e : TypeId} {pos : String} {after : Array Edge} {gu : Option (Nat × Bool)} {X Y Z : Operand}
/-- What an append onto a row of the call's own makes, whatever is appended. -/
theorem append_core {v' : Nat} {K : Mem} {β : Nat → Nat → BT} {w : World} {id ver n sz bytes m : Nat} {b : Blk} {cs' : List D} {v : Value} (E : Elem P t e sz bytes) (hw : WS C K β H w) (hv : DR K β true v (.own id ver 0 n sz)) (hb : H[id]? = some (some b)) (hver : b.ver = ver) (he : b.e = e) (hv' : ver < v') (hn : n * sz ≤ b.cs.length)
    (A : Option Addr) (c : Nat) (news : List Value) (hl : news.length = m * sz) (hcell : ∀ (j : Nat) u, news[j]? = some u → ∃ ad, A = some ad ∧ w.cell? (ad.add j) = some u) (h1 : ∀ u ∈ news, u.oneCell' = true)
    (hds : news.length = cs'.length) (hdr : ∀ (j : Nat) u d, news[j]? = some u → cs'[j]? = some d → DR K β true u d) (hok : ∀ d ∈ cs', OkD H d) (h63 : n + m ≤ maxLen) (hby : (n + m) * bytes ≤ 140737488355328) :
    ∃ u' w' t', (Builtin.append_ #[t, t] ty #[v, .slice A m c]).run P w = .ok u' w' ∧ WS C K (addB β id v' t') (H.set id (some ⟨b.cs.take (n * sz) ++ cs', e, true, v'⟩)) w' ∧ DR K (addB β id v' t') true u' (.own id v' 0 (n + m) sz) := by
  subst hver he
  obtain ⟨i, z, hi, hz, hsz, hbs, hzs⟩ := E.inf
  have hrows : ∃ xs : List Value, w.ownsRow 0 b.e sz v n xs ∧ xs.length = n * sz ∧ (∀ (j : Nat) u d, xs[j]? = some u → (b.cs.take (n * sz))[j]? = some d → DR K β true u d) ∧ (∀ k, v.ownBlock = some k → (β id b.ver).real = true ∧ k = (β id b.ver).blk) := by
    rcases hv.own_inv with ⟨c, rfl, hnc, hm, htot, hr⟩ | ⟨rfl, _, h0, hr⟩
    · obtain ⟨us, rest, hh, hlen, htot', _, hd⟩ := hw.real hb hr
      refine ⟨us.take (n * sz), ⟨by rw [List.length_take]; omega, .inr ⟨_, c, _, rfl, Nat.zero_le _, hh, hnc, hm, by simp; omega, ?_⟩⟩, by rw [List.length_take]; omega, fun j u d hu hd' => ?_, fun k hk => ?_⟩
      · simp only []
        rw [List.take_append_of_le_length (by omega)]
      · rw [List.getElem?_take] at hu hd'
        split at hu
        · rw [if_pos (by assumption)] at hd'; exact hd j u d hu hd'
        · cases hu
      · simp [Value.ownBlock] at hk; exact ⟨BT.real_of hr, hk.symm⟩
    · subst h0
      exact ⟨[], ⟨by simp, .inl ⟨rfl, rfl⟩⟩, by simp, by simp, fun k hk => by simp [Value.ownBlock] at hk⟩
  obtain ⟨xs, hown, hxl, hxd, hblk⟩ := hrows
  obtain ⟨u', w', hrun, hown', hgrow, hat⟩ := run_append_any (P := P) (w := w) 0 t ty b.e i z sz bytes E.ut hi hz hsz hbs hzs E.pos v n xs hown A m c news hl hcell h1 h63 hby (Nat.zero_le _)
  have hcells : (xs ++ news).length = (b.cs.take (n * sz) ++ cs').length := by rw [List.length_append, List.length_append, List.length_take]; omega
  have hcd : ∀ (j : Nat) u d, (xs ++ news)[j]? = some u → (b.cs.take (n * sz) ++ cs')[j]? = some d → DR K β true u d := by
    intro j u d hu hd
    have hlt : (b.cs.take (n * sz)).length = n * sz := by rw [List.length_take]; omega
    by_cases hj : j < n * sz
    · rw [List.getElem?_append_left (by omega)] at hu hd; exact hxd j u d hu hd
    · rw [List.getElem?_append_right (by omega), hxl] at hu
      rw [List.getElem?_append_right (by omega), hlt] at hd
      exact hdr _ u d hu hd
  have hoc : ∀ d ∈ b.cs.take (n * sz) ++ cs', OkD H d := by
    intro d hd
    rcases List.mem_append.1 hd with hd | hd
    · exact hw.ok id b hb d (List.mem_of_mem_take hd)
    · exact hok d hd
  rcases hown'.2 with ⟨rfl, h0⟩ | ⟨g, cap, cur, rfl, hBg, hheap, hncap, hmax, hcur, htake⟩
  · have hn0 : n = 0 := by omega
    have hm0 : m = 0 := by omega
    subst hn0 hm0
    have hcs0 : cs' = [] := List.eq_nil_of_length_eq_zero (by rw [← hds, hl]; simp)
    subst hcs0
    refine ⟨_, w', ⟨0, 0, .none⟩, hrun, ?_, ?_⟩
    · exact hw.grow hb hv' hgrow hblk _ ⟨0, 0, .none⟩ (.inl ⟨rfl, by simp⟩) hoc
    · exact .own0 _ _ _ (by rw [addB_at])
  · refine ⟨_, w', ⟨g, cap * sz, .cells⟩, hrun, ?_, ?_⟩
    · refine hw.grow hb hv' hgrow hblk _ ⟨g, cap * sz, .cells⟩ (.inr ⟨rfl, ?_, xs ++ news, cur.toList.drop ((n + m) * sz), ?_, hcells, ?_, hcd⟩) hoc
      · rcases hat with h | h
        · exact .inl (by rw [← h]; rfl)
        · simp [Value.ownBlock] at h; exact .inr h
      · rw [hheap, ← htake, List.take_append_drop]
      · have h5 : (n + m) * sz ≤ cap * sz := Nat.mul_le_mul_right _ hncap
        rw [← htake, List.length_take, List.length_drop, Array.length_toList, hcur]
        show min ((n + m) * sz) (cap * sz) + (cap * sz - (n + m) * sz) = cap * sz
        generalize (n + m) * sz = p at *
        generalize cap * sz = q at *
        omega
    · have := DR.own (K := K) (β := addB β id (v') ⟨g, cap * sz, .cells⟩) id (v') 0 (n + m) sz cap hncap hmax (by rw [addB_at]; simp) (by rw [addB_at])
      rw [addB_at] at this; exact this
/-- An append of a slice that stays. -/
theorem o_append_rdv (v' : Nat) {id ver n sz bytes m : Nat} {b : Blk} {cs' : List D} (E : Elem P t e sz bytes) (hx : ev env X = .own id ver 0 n sz) (hy : ev env Y = .rd m cs') (hb : H[id]? = some (some b)) (hver : b.ver = ver) (he : b.e = e) (hv' : ver < v') (hn : n * sz ≤ b.cs.length) (hm : cs'.length = m * sz) (h1 : ∀ d ∈ cs', oneD d = true)
    (h63 : n + m ≤ 9223372036854775807) (hby : (n + m) * bytes ≤ 140737488355328) :
    OpD P C ⟨dst, .call { callee := .builtin .append, args := #[X, Y], argTypes := #[t, t] }, ty, pos, after, gu⟩ env H (.own id v' 0 (n + m) sz) (H.set id (some ⟨b.cs.take (n * sz) ++ cs', e, true, v'⟩)) := by
  have hle : HLe H (H.set id (some ⟨b.cs.take (n * sz) ++ cs', e, true, v'⟩)) := HLe.set hb (by simp; omega)
  refine OpD.of hle fun K β ac w hw h hk => ?_
  have hxv := h X (by simp [Op.operands, Call.operands])
  have hyv := h Y (by simp [Op.operands, Call.operands])
  rw [hx] at hxv; rw [hy] at hyv
  obtain ⟨A, c, us, e1, hmc, hlen, hc, hd⟩ := hyv.rd_inv
  obtain ⟨u', w', t', hrun, hws, hdr⟩ := append_core (P := P) (ty := ty) (cs' := cs') E hw hxv hb hver he hv' hn A c us (by omega) (fun j u hu => let ⟨ad, h1, h2⟩ := hc j u hu; ⟨ad, h1, hw.cell h2⟩) (fun u hu => by
      obtain ⟨j, hj⟩ := List.getElem?_of_mem hu
      have hlt : j < cs'.length := by rw [← hlen]; exact (List.getElem?_eq_some_iff.1 hj).1
      exact oneD.val (hd j u _ hj (List.getElem?_eq_getElem hlt)) (h1 _ (List.getElem_mem hlt))) hlen (fun j u d hu hd' => (hd j u d hu hd').up rfl)
      (fun d hd' => by
        obtain ⟨j, hj⟩ := List.getElem?_of_mem hd'
        have hlt : j < us.length := by rw [hlen]; exact (List.getElem?_eq_some_iff.1 hj).1
        exact (hd j _ d (List.getElem?_eq_getElem hlt) hj).okp rfl) h63 hby
  subst hver
  refine ⟨K, _, u', w', ?_, KX.refl _ _, addB_agr' hb hv', hws, hdr, .own _ _ _ _ _ ?_⟩
  · rw [← e1] at hrun
    simp only [execOp, resolve, invoke, builtin, Sem.run_bind, Sem.run_pure, Result.andThen_ok, List.map_toArray, List.map_cons, List.map_nil, hrun]
  · unfold okV
    rw [List.getElem?_set, if_pos rfl, if_pos (List.getElem?_eq_some_iff.1 hb).1]
    exact Nat.le_refl _
theorem o_append_rd {id ver n sz bytes m : Nat} {b : Blk} {cs' : List D} (E : Elem P t e sz bytes) (hx : ev env X = .own id ver 0 n sz) (hy : ev env Y = .rd m cs') (hb : H[id]? = some (some b)) (hver : b.ver = ver) (he : b.e = e) (hn : n * sz ≤ b.cs.length) (hm : cs'.length = m * sz) (h1 : ∀ d ∈ cs', oneD d = true)
    (h63 : n + m ≤ 9223372036854775807) (hby : (n + m) * bytes ≤ 140737488355328) :
    OpD P C ⟨dst, .call { callee := .builtin .append, args := #[X, Y], argTypes := #[t, t] }, ty, pos, after, gu⟩ env H (.own id (ver + 1) 0 (n + m) sz) (H.set id (some ⟨b.cs.take (n * sz) ++ cs', e, true, ver + 1⟩)) :=
  o_append_rdv (ver + 1) E hx hy hb hver he (Nat.lt_succ_self _) hn hm h1 h63 hby
end
end Go.DL
