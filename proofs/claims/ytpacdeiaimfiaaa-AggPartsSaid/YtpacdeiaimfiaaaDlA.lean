/-
  A logic of data for the walks: what slots hold is told as data (numbers, slices that nobody changes, blocks of the call's own), not as memory. Plain lemmas over any program; no condition.
-/
import Derived.WalkKit
import Derived.RangeFuncIn
import Derived.RangeFuncRecord
import Derived.RangeFuncLeaves
import Derived.OrdersIn
import Derived.TacticsIn
import Derived.Scope
import Derived.Deep.LoopGhost
import Derived.RegionTactic
import Derived.Below
import Derived.Laws.Rows
set_option linter.unusedSimpArgs false
set_option linter.unusedVariables false
namespace Go.DL
open Go.RowKit

theorem sz_of {P : Program} {e : TypeId} {z : Option Value} {n b : Nat} (h : (P.info? e).map (fun i => (i.zero, i.size, i.bytes)) = some (z, n, b)) : (P.info? e).map (·.size) = some n := by
  obtain ⟨i, h1, h2⟩ := Option.map_eq_some_iff.1 h
  cases h2
  rw [h1]; rfl
theorem z_of {P : Program} {e : TypeId} {z : Option Value} {n b : Nat} (h : (P.info? e).map (fun i => (i.zero, i.size, i.bytes)) = some (z, n, b)) : (P.info? e).map (·.zero) = some z := by
  obtain ⟨i, h1, h2⟩ := Option.map_eq_some_iff.1 h
  cases h2
  rw [h1]; rfl
inductive D where
  | any
  | v (x : Value)
  | agg (cs : List D)
  | tup (ds : List D)
  | fn (f : Fn) (cs : List D)
  | iface (t : TypeId) (d : D)
  | mp (ks : List Value) (cs : List D)
  | rd (n : Nat) (cs : List D)
  | adr (cs : List D)
  | own (id ver off n sz : Nat)
  | ptr (id ver off : Nat)
  | omp (id ver : Nat)

abbrev Mem := Nat → Option Obj
def Mem.cell (K : Mem) (a : Addr) : Option Value := match K a.block with | some (.cells c _ _) => if a.spot.isSome then none else c[a.off]? | _ => none
def Mem.le (K K' : Mem) : Prop := ∀ b c, K b = some c → K' b = some c
theorem Mem.le.refl (K : Mem) : Mem.le K K := fun _ _ h => h
theorem Mem.le.trans {K K' K'' : Mem} (h : Mem.le K K') (h' : Mem.le K' K'') : Mem.le K K'' := fun b c x => h' b c (h b c x)
theorem Mem.le.cell {K K' : Mem} (h : Mem.le K K') {a : Addr} {u : Value} (hu : K.cell a = some u) : K'.cell a = some u := by
  unfold Mem.cell at *
  cases hk : K a.block with
  | none => simp [hk] at hu
  | some c => rw [h _ _ hk]; rw [hk] at hu; exact hu

/-- Where a block of the call's own lies, and how many cells it has in all; not 'real': there is none yet (a slice that is nil). -/
inductive BS where
  | none
  | cells
  | map
  deriving DecidableEq
structure BT where
  blk : Nat
  tot : Nat
  st : BS
def BT.real (t : BT) : Bool := match t.st with
  | .none => false
  | _ => true
theorem BT.real_of {t : BT} (h : t.st = .cells) : t.real = true := by unfold BT.real; rw [h]
theorem BT.real_ofm {t : BT} (h : t.st = .map) : t.real = true := by unfold BT.real; rw [h]
theorem BT.real_none {t : BT} (h : t.st = .none) : t.real = false := by unfold BT.real; rw [h]
theorem BT.none_of {t : BT} (h : t.real = false) : t.st = .none := by
  unfold BT.real at h
  cases hs : t.st with
  | none => rfl
  | cells => rw [hs] at h; cases h
  | map => rw [hs] at h; cases h

/-- A value reads as a datum; 'm': may it name blocks of the call's own? -/
inductive DR (K : Mem) (β : Nat → Nat → BT) : Bool → Value → D → Prop
  | any (m) (x) : DR K β m x .any
  | v (m) (x) : DR K β m x (.v x)
  | agg (m) (us : List Value) (cs : List D) (hl : us.length = cs.length) (hd : ∀ (j : Nat) u d, us[j]? = some u → cs[j]? = some d → DR K β m u d) : DR K β m (.agg us.toArray) (.agg cs)
  | tup (m) (us : List Value) (cs : List D) (hl : us.length = cs.length) (hd : ∀ (j : Nat) u d, us[j]? = some u → cs[j]? = some d → DR K β m u d) : DR K β m (.tuple us.toArray) (.tup cs)
  | fn (m) (f : Fn) (us : List Value) (cs : List D) (hl : us.length = cs.length) (hd : ∀ (j : Nat) u d, us[j]? = some u → cs[j]? = some d → DR K β m u d) : DR K β m (.func f #[] us.toArray) (.fn f cs)
  | iface (m) (t : TypeId) (u : Value) (d : D) (hd : DR K β m u d) : DR K β m (.iface t u) (.iface t d)
  | mp (m) (r : Nat) (es : Array MapEntry) (ck : Nat) (ks : List Value) (cs : List D) (hk : K r = some (.map es ck)) (hl : es.toList.map (·.key) = ks) (hc : es.size = cs.length)
      (hd : ∀ (j : Nat) u d, es[j]? = some u → cs[j]? = some d → DR K β false u.val d) : DR K β m (.map (some r)) (.mp ks cs)
  | rd (m) (A : Option Addr) (n c : Nat) (us : List Value) (cs : List D) (hn : n ≤ c) (hl : us.length = cs.length)
      (hc : ∀ (j : Nat) u, us[j]? = some u → ∃ ad, A = some ad ∧ K.cell (ad.add j) = some u)
      (hd : ∀ (j : Nat) u d, us[j]? = some u → cs[j]? = some d → DR K β false u d) : DR K β m (.slice A n c) (.rd n cs)
  | adr (m) (ad : Addr) (us : List Value) (cs : List D) (hl : us.length = cs.length)
      (hc : ∀ (j : Nat) u, us[j]? = some u → K.cell (ad.add j) = some u)
      (hd : ∀ (j : Nat) u d, us[j]? = some u → cs[j]? = some d → DR K β false u d) : DR K β m (.pointer (some ad)) (.adr cs)
  | own (id ver off n sz c : Nat) (hn : n ≤ c) (hm : c ≤ maxLen) (hc : off + c * sz = (β id ver).tot) (hr : (β id ver).st = .cells) : DR K β true (.slice (some ⟨(β id ver).blk, off, none⟩) n c) (.own id ver off n sz)
  | own0 (id ver sz : Nat) (hr : (β id ver).st = .none) : DR K β true (.slice none 0 0) (.own id ver 0 0 sz)
  | ptr (id ver off : Nat) (hr : (β id ver).st = .cells) : DR K β true (.pointer (some ⟨(β id ver).blk, off, none⟩)) (.ptr id ver off)
  | omp (id ver : Nat) (hr : (β id ver).st = .map) : DR K β true (.map (some (β id ver).blk)) (.omp id ver)

structure Blk where
  cs : List D
  e : TypeId
  grow : Bool
  ver : Nat
abbrev Heap := List (Option Blk)
/-- Block id has come to version v. -/
def okV (H : Heap) (id v : Nat) : Prop := match H[id]? with
  | some (some b) => v ≤ b.ver
  | some none => True
  | none => False
def HLe (H H' : Heap) : Prop := ∀ id v, okV H id v → okV H' id v
theorem HLe.refl (H : Heap) : HLe H H := fun _ _ h => h
theorem HLe.trans {H H' H'' : Heap} (h : HLe H H') (h' : HLe H' H'') : HLe H H'' := fun i v x => h' i v (h i v x)
theorem okV.lt {H : Heap} {id v : Nat} (h : okV H id v) : id < H.length := by
  unfold okV at h
  rcases Nat.lt_or_ge id H.length with h1 | h1
  · exact h1
  · rw [List.getElem?_eq_none h1] at h; exact h.elim
theorem HLe.app (H : Heap) (x : Option Blk) : HLe H (H ++ [x]) := fun i v h => by
  have := h.lt
  unfold okV at *
  rw [List.getElem?_append_left this]; exact h
theorem okV_new (H : Heap) (b : Blk) : okV (H ++ [some b]) H.length b.ver := by
  unfold okV
  rw [List.getElem?_append_right (Nat.le_refl _)]; simp
theorem HLe.set {H : Heap} {id : Nat} {b b' : Blk} (hb : H[id]? = some (some b)) (hv : b.ver ≤ b'.ver) : HLe H (H.set id (some b')) := fun i v h => by
  unfold okV at *
  rw [List.getElem?_set]
  by_cases e : id = i
  · subst e
    rw [if_pos rfl, if_pos (List.getElem?_eq_some_iff.1 hb).1]
    rw [hb] at h
    exact Nat.le_trans h hv
  · rw [if_neg e]; exact h
theorem HLe.kill (H : Heap) (id : Nat) : HLe H (H.set id none) := fun i v h => by
  have := h.lt
  unfold okV at *
  rw [List.getElem?_set]
  by_cases e : id = i
  · subst e; rw [if_pos rfl, if_pos this]; trivial
  · rw [if_neg e]; exact h
/-- All blocks that a datum names are there, and have come to the version named. -/
inductive OkD (H : Heap) : D → Prop
  | any : OkD H .any
  | v (x) : OkD H (.v x)
  | agg (cs : List D) (h : ∀ c ∈ cs, OkD H c) : OkD H (.agg cs)
  | tup (cs : List D) (h : ∀ c ∈ cs, OkD H c) : OkD H (.tup cs)
  | fn (f : Fn) (cs : List D) (h : ∀ c ∈ cs, OkD H c) : OkD H (.fn f cs)
  | iface (t d) (h : OkD H d) : OkD H (.iface t d)
  | mp (ks cs) : OkD H (.mp ks cs)
  | rd (n cs) : OkD H (.rd n cs)
  | adr (cs) : OkD H (.adr cs)
  | own (id ver off n sz) (h : okV H id ver) : OkD H (.own id ver off n sz)
  | ptr (id ver off) (h : okV H id ver) : OkD H (.ptr id ver off)
  | omp (id ver) (h : okV H id ver) : OkD H (.omp id ver)
theorem OkD.mono {H H' : Heap} {d : D} (h : OkD H d) (hb : HLe H H') : OkD H' d := by
  induction h with
  | any => exact .any
  | v x => exact .v x
  | agg cs _ ih => exact .agg cs ih
  | tup cs _ ih => exact .tup cs ih
  | fn f cs _ ih => exact .fn f cs ih
  | iface t d _ ih => exact .iface _ _ ih
  | mp ks cs => exact .mp _ _
  | rd n cs => exact .rd n cs
  | adr cs => exact .adr cs
  | own id ver off n sz h => exact .own _ _ _ _ _ (hb _ _ h)
  | ptr id ver off h => exact .ptr _ _ _ (hb _ _ h)
  | omp id ver h => exact .omp _ _ (hb _ _ h)
/-- Two tables of blocks tell the same of what there is. -/
def Agr (H : Heap) (β β' : Nat → Nat → BT) : Prop := ∀ i v, okV H i v → β' i v = β i v
theorem Agr.refl (H : Heap) (β : Nat → Nat → BT) : Agr H β β := fun _ _ _ => rfl

theorem DR.pure {K : Mem} {β β' : Nat → Nat → BT} {m : Bool} {x : Value} {d : D} (h : DR K β m x d) (hm : m = false) : DR K β' m x d := by
  induction h with
  | any m x => exact .any _ _
  | v m x => exact .v _ _
  | agg m us cs hl _ ih => exact .agg _ us cs hl fun j u d hu hd => ih j u d hu hd hm
  | tup m us cs hl _ ih => exact .tup _ us cs hl fun j u d hu hd => ih j u d hu hd hm
  | fn m f us cs hl _ ih => exact .fn _ f us cs hl fun j u d hu hd => ih j u d hu hd hm
  | iface m t u d _ ih => exact .iface _ t u d (ih hm)
  | mp m r es ck ks cs hk hl hc _ ih => exact .mp _ r es ck ks cs hk hl hc fun j u d hu hd => ih j u d hu hd rfl
  | rd m A n c us cs hn hl hc _ ih => exact .rd _ A n c us cs hn hl hc fun j u d hu hd => ih j u d hu hd rfl
  | adr m ad us cs hl hc _ ih => exact .adr _ ad us cs hl hc fun j u d hu hd => ih j u d hu hd rfl
  | own => cases hm
  | own0 => cases hm
  | ptr => cases hm
  | omp => cases hm
theorem DR.up {K : Mem} {β : Nat → Nat → BT} {m : Bool} {x : Value} {d : D} (h : DR K β m x d) (hm : m = false) : DR K β true x d := by
  induction h with
  | any m x => exact .any _ _
  | v m x => exact .v _ _
  | agg m us cs hl _ ih => exact .agg _ us cs hl fun j u d hu hd => ih j u d hu hd hm
  | tup m us cs hl _ ih => exact .tup _ us cs hl fun j u d hu hd => ih j u d hu hd hm
  | fn m f us cs hl _ ih => exact .fn _ f us cs hl fun j u d hu hd => ih j u d hu hd hm
  | iface m t u d _ ih => exact .iface _ t u d (ih hm)
  | mp m r es ck ks cs hk hl hc hd ih => exact .mp _ r es ck ks cs hk hl hc hd
  | rd m A n c us cs hn hl hc hd ih => exact .rd _ A n c us cs hn hl hc hd
  | adr m ad us cs hl hc hd ih => exact .adr _ ad us cs hl hc hd
  | own => cases hm
  | own0 => cases hm
  | ptr => cases hm
  | omp => cases hm
theorem DR.mono {K K' : Mem} {β β' : Nat → Nat → BT} {m : Bool} {x : Value} {d : D} (h : DR K β m x d) (hK : Mem.le K K') {H : Heap} (ho : m = true → OkD H d) (hβ : Agr H β β') : DR K' β' m x d := by
  induction h with
  | any m x => exact .any _ _
  | v m x => exact .v _ _
  | agg m us cs hl _ ih =>
    refine .agg _ us cs hl fun j u d hu hd => ih j u d hu hd fun hm => ?_
    cases ho hm with
    | agg _ h => exact h d (List.mem_of_getElem? hd)
  | tup m us cs hl _ ih =>
    refine .tup _ us cs hl fun j u d hu hd => ih j u d hu hd fun hm => ?_
    cases ho hm with
    | tup _ h => exact h d (List.mem_of_getElem? hd)
  | fn m f us cs hl _ ih =>
    refine .fn _ f us cs hl fun j u d hu hd => ih j u d hu hd fun hm => ?_
    cases ho hm with
    | fn _ _ h => exact h d (List.mem_of_getElem? hd)
  | iface m t u d _ ih =>
    refine .iface _ t u d (ih fun hm => ?_)
    cases ho hm with
    | iface _ _ h => exact h
  | mp m r es ck ks cs hk hl hc _ ih => exact .mp _ r es ck ks cs (hK _ _ hk) hl hc fun j u d hu hd => ih j u d hu hd (by intro h; cases h)
  | rd m A n c us cs hn hl hc _ ih =>
    refine .rd _ A n c us cs hn hl (fun j u hu => ?_) fun j u d hu hd => ih j u d hu hd (by intro h; cases h)
    obtain ⟨ad, e, hk⟩ := hc j u hu
    exact ⟨ad, e, hK.cell hk⟩
  | adr m ad us cs hl hc _ ih =>
    exact .adr _ ad us cs hl (fun j u hu => hK.cell (hc j u hu)) fun j u d hu hd => ih j u d hu hd (by intro h; cases h)
  | own id ver off n sz c hn hm hc hr =>
    cases ho rfl with
    | own _ _ _ _ _ h => rw [← hβ id ver h] at hc hr ⊢; exact .own id ver off n sz c hn hm hc hr
  | own0 id ver sz hr =>
    cases ho rfl with
    | own _ _ _ _ _ h => rw [← hβ id ver h] at hr; exact .own0 id ver sz hr
  | ptr id ver off hr =>
    cases ho rfl with
    | ptr _ _ _ h => rw [← hβ id ver h] at hr ⊢; exact .ptr id ver off hr
  | omp id ver hr =>
    cases ho rfl with
    | omp _ _ h => rw [← hβ id ver h] at hr ⊢; exact .omp id ver hr

theorem DR.okp {K : Mem} {β : Nat → Nat → BT} {m : Bool} {x : Value} {d : D} (h : DR K β m x d) (hm : m = false) {H : Heap} : OkD H d := by
  induction h with
  | any m x => exact .any
  | v m x => exact .v _
  | agg m us cs hl hd ih =>
    refine .agg _ fun c hc => ?_
    obtain ⟨j, hj⟩ := List.getElem?_of_mem hc
    have hlt : j < us.length := by rw [hl]; exact (List.getElem?_eq_some_iff.1 hj).1
    exact ih j _ c (List.getElem?_eq_getElem hlt) hj hm
  | tup m us cs hl hd ih =>
    refine .tup _ fun c hc => ?_
    obtain ⟨j, hj⟩ := List.getElem?_of_mem hc
    have hlt : j < us.length := by rw [hl]; exact (List.getElem?_eq_some_iff.1 hj).1
    exact ih j _ c (List.getElem?_eq_getElem hlt) hj hm
  | fn m f us cs hl hd ih =>
    refine .fn _ _ fun c hc => ?_
    obtain ⟨j, hj⟩ := List.getElem?_of_mem hc
    have hlt : j < us.length := by rw [hl]; exact (List.getElem?_eq_some_iff.1 hj).1
    exact ih j _ c (List.getElem?_eq_getElem hlt) hj hm
  | iface m t u d _ ih => exact .iface _ _ (ih hm)
  | mp m r es ck ks cs => exact .mp _ _
  | rd m A n c us cs => exact .rd _ _
  | adr m ad us cs => exact .adr _
  | own => cases hm
  | own0 => cases hm
  | ptr => cases hm
  | omp => cases hm
theorem DR.v_inv {K : Mem} {β : Nat → Nat → BT} {m : Bool} {x y : Value} (h : DR K β m x (.v y)) : x = y := by cases h; rfl
theorem DR.rd_inv {K : Mem} {β : Nat → Nat → BT} {m : Bool} {x : Value} {n : Nat} {cs : List D} (h : DR K β m x (.rd n cs)) : ∃ (A : Option Addr) (c : Nat) (us : List Value), x = .slice A n c ∧ n ≤ c ∧ us.length = cs.length ∧
    (∀ (j : Nat) u, us[j]? = some u → ∃ ad, A = some ad ∧ K.cell (ad.add j) = some u) ∧ (∀ (j : Nat) u d, us[j]? = some u → cs[j]? = some d → DR K β false u d) := by
  cases h with
  | rd _ A n c us cs hn hl hc hd => exact ⟨A, c, us, rfl, hn, hl, hc, hd⟩
theorem DR.adr_inv {K : Mem} {β : Nat → Nat → BT} {m : Bool} {x : Value} {cs : List D} (h : DR K β m x (.adr cs)) : ∃ (ad : Addr) (us : List Value), x = .pointer (some ad) ∧ us.length = cs.length ∧
    (∀ (j : Nat) u, us[j]? = some u → K.cell (ad.add j) = some u) ∧ (∀ (j : Nat) u d, us[j]? = some u → cs[j]? = some d → DR K β false u d) := by
  cases h with
  | adr _ ad us cs hl hc hd => exact ⟨ad, us, rfl, hl, hc, hd⟩
theorem DR.agg_inv {K : Mem} {β : Nat → Nat → BT} {m : Bool} {x : Value} {cs : List D} (h : DR K β m x (.agg cs)) : ∃ us : List Value, x = .agg us.toArray ∧ us.length = cs.length ∧ (∀ (j : Nat) u d, us[j]? = some u → cs[j]? = some d → DR K β m u d) := by
  cases h with
  | agg _ us cs hl hd => exact ⟨us, rfl, hl, hd⟩
theorem DR.fn_inv {K : Mem} {β : Nat → Nat → BT} {m : Bool} {x : Value} {f : Fn} {cs : List D} (h : DR K β m x (.fn f cs)) : ∃ us : List Value, x = .func f #[] us.toArray ∧ us.length = cs.length ∧ (∀ (j : Nat) u d, us[j]? = some u → cs[j]? = some d → DR K β m u d) := by
  cases h with
  | fn _ _ us cs hl hd => exact ⟨us, rfl, hl, hd⟩
theorem DR.tup_inv {K : Mem} {β : Nat → Nat → BT} {m : Bool} {x : Value} {cs : List D} (h : DR K β m x (.tup cs)) : ∃ us : List Value, x = .tuple us.toArray ∧ us.length = cs.length ∧ (∀ (j : Nat) u d, us[j]? = some u → cs[j]? = some d → DR K β m u d) := by
  cases h with
  | tup _ us cs hl hd => exact ⟨us, rfl, hl, hd⟩
theorem DR.own_inv {K : Mem} {β : Nat → Nat → BT} {m : Bool} {x : Value} {id ver off n sz : Nat} (h : DR K β m x (.own id ver off n sz)) : (∃ c, x = .slice (some ⟨(β id ver).blk, off, none⟩) n c ∧ n ≤ c ∧ c ≤ maxLen ∧ off + c * sz = (β id ver).tot ∧ (β id ver).st = .cells) ∨ (x = .slice none 0 0 ∧ off = 0 ∧ n = 0 ∧ (β id ver).st = .none) := by
  cases h with
  | own _ _ _ _ _ c hn hm hc hr => exact .inl ⟨c, rfl, hn, hm, hc, hr⟩
  | own0 _ _ _ hr => exact .inr ⟨rfl, rfl, rfl, hr⟩
theorem DR.own_len {K : Mem} {β : Nat → Nat → BT} {m : Bool} {x : Value} {id ver off n sz : Nat} (h : DR K β m x (.own id ver off n sz)) : ∃ A c, x = .slice A n c ∧ n ≤ c := by
  rcases h.own_inv with ⟨c, e, hc, _⟩ | ⟨e, _, h0, _⟩
  · exact ⟨_, c, e, hc⟩
  · subst h0; exact ⟨_, 0, e, Nat.le_refl _⟩
theorem DR.iface_inv {K : Mem} {β : Nat → Nat → BT} {m : Bool} {x : Value} {t : TypeId} {d : D} (h : DR K β m x (.iface t d)) : ∃ u, x = .iface t u ∧ DR K β m u d := by
  cases h with
  | iface _ _ u _ hd => exact ⟨u, rfl, hd⟩
theorem DR.mp_inv {K : Mem} {β : Nat → Nat → BT} {m : Bool} {x : Value} {ks : List Value} {cs : List D} (h : DR K β m x (.mp ks cs)) : ∃ (r : Nat) (es : Array MapEntry) (ck : Nat), x = .map (some r) ∧ K r = some (.map es ck) ∧ es.toList.map (·.key) = ks ∧ es.size = cs.length ∧
    ∀ (j : Nat) u d, es[j]? = some u → cs[j]? = some d → DR K β false u.val d := by
  cases h with
  | mp _ r es ck _ _ hk hl hc hd => exact ⟨r, es, ck, rfl, hk, hl, hc, hd⟩
theorem DR.omp_inv {K : Mem} {β : Nat → Nat → BT} {m : Bool} {x : Value} {id ver : Nat} (h : DR K β m x (.omp id ver)) : x = .map (some (β id ver).blk) ∧ (β id ver).st = .map := by
  cases h with
  | omp _ _ hr => exact ⟨rfl, hr⟩
theorem DR.ptr_inv {K : Mem} {β : Nat → Nat → BT} {m : Bool} {x : Value} {id ver off : Nat} (h : DR K β m x (.ptr id ver off)) : x = .pointer (some ⟨(β id ver).blk, off, none⟩) ∧ (β id ver).st = .cells := by
  cases h with
  | ptr _ _ _ hr => exact ⟨rfl, hr⟩

/-- The entries of a map: keys that are known, values that read so; each has a stamp of its own, below the clock. -/
structure EntR (K : Mem) (β : Nat → Nat → BT) (es : Array MapEntry) (ck : Nat) (cs : List D) : Prop where
  len : es.size = cs.length
  rd : ∀ (j : Nat) u d, es[j]? = some u → cs[j]? = some d → ∃ dv, d = .tup [.v u.key, dv] ∧ DR K β true u.val dv
  born : ∀ (i j : Nat) u v, i < j → es[i]? = some u → es[j]? = some v → u.born < v.born
  clock : ∀ (j : Nat) u, es[j]? = some u → u.born < ck
/-- Block t of the world holds these cells; more may stand behind them, where the row may grow. -/
def CellsR (K : Mem) (β : Nat → Nat → BT) (t : BT) (b : Blk) (o : Option Obj) : Prop := ∃ us rest : List Value, o = some (.cells (us ++ rest).toArray b.e (0, 0)) ∧ us.length = b.cs.length ∧ us.length + rest.length = t.tot ∧ (b.grow = false → rest = []) ∧ ∀ (j : Nat) u d, us[j]? = some u → b.cs[j]? = some d → DR K β true u d
def BlkR (K : Mem) (β : Nat → Nat → BT) (t : BT) (b : Blk) (o : Option Obj) : Prop := match t.st with
  | .none => b.cs = []
  | .cells => CellsR K β t b o
  | .map => ∃ es ck, o = some (.map es ck) ∧ EntR K β es ck b.cs

/-! ### A fence that lets all in; at a round, its record -/
/-- All functions, any depth; the frames are of the round r, if it is one. -/
def FW (r : Option Nat) : Fence := { fn := fun _ => True, depth := none, alive := false, round := r }
theorem fenced_FW (r : Option Nat) (P : Program) (m : Machine) : m.fenced P (FW r) := by
  intro g _
  refine ⟨fun h => ?_, Or.inl trivial, fun _ _ => trivial, fun _ h => ?_⟩
  · simp [FW] at h
  · simp [FW] at h
theorem room_FW (r : Option Nat) (n : Nat) : (FW r).room n := fun _ h => by simp [FW] at h
theorem comes_FW {r : Option Nat} {P : Program} {m m' : Machine} {e : Ending} (h : Comes P m m' e) : ComesIn (Machine.fenced P (FW r)) P m m' e := by
  cases e with
  | outgrown => exact h
  | returned v => exact (StepsIn.of_steps h).mono fun m _ => fenced_FW r P m
  | panicked chain => exact (StepsIn.of_steps h).mono fun m _ => fenced_FW r P m
theorem calls_FW {r : Option Nat} {n : Nat} {P : Program} {f : FuncId} {args : Array Value} {w : World} {R : Ending → World → Prop} (h : Calls P f args w R) : CallsIn (FW r) n P f args w R :=
  ⟨trivial, fun cs _ => let ⟨e, w', fr, hr, s, x⟩ := h cs; ⟨e, w', fr, hr, comes_FW s, x⟩⟩
theorem rows_FW {r : Option Nat} {n : Nat} {P : Program} {row : String} {args : Array Value} {w : World} {R : Value → World → Prop} (h : Rows P row args w R) : RowsIn (FW r) n P row args w R :=
  fun c cs _ => let ⟨v, w', hr, s⟩ := h c cs; ⟨v, w', hr, (StepsIn.of_steps s).mono fun m _ => fenced_FW r P m⟩
theorem upon_FW {r : Option Nat} {P : Program} {o : Oper} {a : Act} {Kc : Act → World → Prop} {Q : Exit → Act → World → Prop} {x : Result Next} (h : o.upon P a Kc Q x) : o.uponIn (FW r) 0 P a Kc Q x := by
  cases x with
  | ok x w' =>
    cases x <;> first
      | exact h
      | exact h.elim
      | exact ⟨fun e => by simp [FW] at e, calls_FW h⟩
      | exact ⟨fun e => by simp [FW] at e, rows_FW h⟩
  | halt x w' => cases x <;> first | exact h | exact h.elim
/-- An operation whose outcome is told. -/
theorem wpIn_FW {r : Option Nat} {P : Program} {o : Oper} {a : Act} {w : World} {Kc : Act → World → Prop} {Q : Exit → Act → World → Prop} (hd : ∀ c, o.op ≠ .defer c) (h : o.upon P a Kc Q ((execOp a.eval o).run P w)) : o.wpIn (FW r) 0 P a w Kc Q :=
  ⟨fun _ _ => trivial, by rw [Oper.semAt_eq _ _ _ hd]; exact upon_FW h⟩
theorem defer_run {P : Program} {o : Oper} {ρ : Operand → Value} {w w' : World} {x : Next} (h : (execOp ρ o).run P w = .ok x w') (hx : ∀ d, x ≠ .defer d) : ∀ c, o.op ≠ .defer c := by
  intro c hc
  have e : execOp ρ o = (do return .defer (← resolve ρ c o.type)) := by unfold execOp; rw [hc]
  rw [e, Sem.run_bind] at h
  cases hr : (resolve ρ c o.type).run P w with
  | ok d w1 => rw [hr] at h; simp [Result.andThen] at h; exact hx d h.1.symm
  | halt y w1 => rw [hr] at h; simp [Result.andThen] at h
theorem wpIn_loop_ghost {F : Fence} {n : Nat} {P : Program} {Q : Exit → Act → World → Prop} {a : Act} {w : World} {c : Code} (I : Nat → Act → World → Prop) (n₀ : Nat) (h₀ : I n₀ a w)
    (round : ∀ k a w, I k a w → c.wpIn F n P (Exit.then (fun a' w' => ∃ n', n' < k ∧ I n' a' w') Q) a w) : (Code.loop c).wpIn F n P Q a w := by
  refine wpIn_loop (fun a w => ∃ n, I n a w) (fun a w => leastOf (fun n => I n a w)) ⟨n₀, h₀⟩ ?_
  intro a w hI
  refine wpIn_mono (round _ a w (leastOf_spec hI).1) ?_
  intro e a' w' hq
  cases e with
  | normal =>
    obtain ⟨n', hlt, hI'⟩ := hq
    exact show (∃ n, I n a' w') ∧ leastOf (fun n => I n a' w') < leastOf (fun n => I n a w) from ⟨⟨n', hI'⟩, Nat.lt_of_le_of_lt ((leastOf_spec ⟨n', hI'⟩).2 n' hI') hlt⟩
  | exit id => exact hq
  | goto l => exact hq
  | ret => exact hq
  | panic ch => exact hq
  | outgrown => exact hq
theorem stepR_scope' {P : Program} {b : Frame} {a : Act} {k : List Item} {cs : List Frame} {w : World} {c : Code} : step P (lone (b.atR a (.code (.scope c) :: k)) cs w) = .next (lone (b.atR a (.code c :: .inScope c :: k)) cs w) :=
  step_lone_go (by simp [stepG, stepG.exec, Frame.atR])
theorem stepR_inScope' {P : Program} {b : Frame} {a : Act} {k : List Item} {cs : List Frame} {w : World} {c : Code} : step P (lone (b.atR a (.inScope c :: k)) cs w) = .next (lone (b.atR a k) cs w) :=
  step_lone_go (by simp [stepG, stepG.exec, Frame.atR])
theorem wpIn_scope_straight {F : Fence} {n : Nat} {P : Program} {Q : Exit → Act → World → Prop} {a : Act} {w : World} {c : Code} (h : c.wpIn F n P (Exit.noGoto Q) a w) : (Code.scope c).wpIn F n P Q a w := by
  intro b k cs hro hb hr
  obtain ⟨e, a₁, w₁, hq, harr⟩ := h b (.inScope c :: k) cs hro hb hr
  have h0 : (lone (b.atR a (.code (.scope c) :: k)) cs w).fenced P F := fenced_calm hb hr rfl
  cases e with
  | normal => exact ⟨.normal, a₁, w₁, hq, .head h0 stepR_scope' (StepsIn.trans harr (.one (fenced_calm hb hr rfl) stepR_inScope'))⟩
  | exit id => exact ⟨.exit id, a₁, w₁, hq, fun k' hk => .head h0 stepR_scope' (harr.1 k' (by simp [exitTo, hk])),
      fun hr' hk => let ⟨k₁, h1, h2⟩ := harr.2 hr' (by simp [exitTo, hk]); ⟨k₁, h1, .head h0 stepR_scope' h2⟩⟩
  | goto l => exact hq.elim
  | ret => exact ⟨_, a₁, w₁, hq, .of_steps (.one h0 stepR_scope') harr⟩
  | panic ch => exact ⟨_, a₁, w₁, hq, .of_steps (.one h0 stepR_scope') harr⟩
  | outgrown => exact ⟨_, a₁, w₁, hq, .of_steps (.one h0 stepR_scope') harr⟩
theorem listW_step {r : Option Nat} {P : Program} {ops : Array Oper} {Q : Exit → Act → World → Prop} {o : Oper} {rest : List Oper} {a : Act} {w : World}
    (h : ∀ Kc : Act → World → Prop, (∀ a w, wpListIn (FW r) 0 P ops Q rest a w → Kc a w) → if Region.wanted o (yielded ops a.tmps) then o.wpIn (FW r) 0 P a w Kc Q else Kc (a.put o.dst undef) w) : wpListIn (FW r) 0 P ops Q (o :: rest) a w := by
  have h1 := h _ fun _ _ h => h
  unfold wpListIn
  split
  · rename_i hw; rw [if_pos hw] at h1; exact h1
  · rename_i hw; rw [if_neg hw] at h1; exact ⟨fun _ _ => trivial, h1⟩
theorem listW_plain {r : Option Nat} {P : Program} {ops : Array Oper} {Q : Exit → Act → World → Prop} {o : Oper} {rest : List Oper} {a : Act} {w : World} (hg : o.guard = none)
    (h : ∀ Kc : Act → World → Prop, (∀ a w, wpListIn (FW r) 0 P ops Q rest a w → Kc a w) → o.wpIn (FW r) 0 P a w Kc Q) : wpListIn (FW r) 0 P ops Q (o :: rest) a w :=
  listW_step fun Kc hK => by rw [show Region.wanted o (yielded ops a.tmps) = true by simp [Region.wanted, hg], if_pos rfl]; exact h Kc hK

/-- Where a call began: below block B all is as it was, but for the blocks that were given (G). -/
structure Ctx where
  B : Nat
  W : World
  G : Nat → Prop
  rd : Option Nat
  hb : Heap
  b0 : Nat → Nat → BT
  kb : Mem
def Ctx.owns (C : Ctx) (k : Nat) : Prop := C.B ≤ k ∨ C.G k
structure Bel (C : Ctx) (w : World) : Prop where
  os : w.os = C.W.os
  tape : w.tape = C.W.tape
  output : w.output = C.W.output
  size : C.W.heap.size ≤ w.heap.size
  block : ∀ k, k < C.B → ¬ C.G k → w.heap[k]? = C.W.heap[k]?
theorem Bel.under {C : Ctx} {w w' : World} {B : Nat} (h : Bel C w) (hb : Below B w w') (hB : C.B ≤ B) : Bel C w' :=
  ⟨hb.os.trans h.os, hb.tape.trans h.tape, hb.output.trans h.output, Nat.le_trans h.size hb.size, fun k hk hg => (hb.block k (by omega)).trans (h.block k hk hg)⟩
theorem Bel.other {C : Ctx} {w w' : World} {g : Nat} (h : Bel C w) (hg : C.owns g) (h1 : w'.os = w.os) (h2 : w'.tape = w.tape) (h3 : w'.output = w.output) (h4 : w.heap.size ≤ w'.heap.size) (h5 : ∀ k, k ≠ g → w'.heap[k]? = w.heap[k]?) : Bel C w' :=
  ⟨h1.trans h.os, h2.trans h.tape, h3.trans h.output, Nat.le_trans h.size h4, fun k hk hn => (h5 k (by rintro rfl; rcases hg with h | h; omega; exact hn h)).trans (h.block k hk hn)⟩
theorem Bel.grown {C : Ctx} {w w' : World} {row : Option Nat} (h : Bel C w) (hg : w.grownBy w' row) (hB : C.B ≤ w.heap.size) (hr : ∀ k, row = some k → C.owns k) : Bel C w' :=
  ⟨hg.os.trans h.os, hg.tape.trans h.tape, hg.output.trans h.output, Nat.le_trans h.size hg.size, fun k hk hn => (hg.block k (by omega) (fun e => by rcases hr k e.symm with h | h; omega; exact hn h)).trans (h.block k hk hn)⟩
structure WS (C : Ctx) (K : Mem) (β : Nat → Nat → BT) (H : Heap) (w : World) : Prop where
  holds : ∀ b o, K b = some o → w.heap[b]? = some o
  blk : ∀ (id : Nat) b, H[id]? = some (some b) → BlkR K β (β id b.ver) b (w.heap[(β id b.ver).blk]?)
  ok : ∀ (id : Nat) b, H[id]? = some (some b) → ∀ c ∈ b.cs, OkD H c
  inj : ∀ (i j : Nat) b b', H[i]? = some (some b) → H[j]? = some (some b') → (β i b.ver).real = true → (β j b'.ver).real = true → (β i b.ver).blk = (β j b'.ver).blk → i = j
  apart : ∀ (id : Nat) b, H[id]? = some (some b) → (β id b.ver).real = true → K (β id b.ver).blk = none
  base : ∀ (id : Nat) b, H[id]? = some (some b) → (β id b.ver).real = true → C.owns (β id b.ver).blk
  size : C.B ≤ w.heap.size
  below : Bel C w
  agr : Agr C.hb C.b0 β
  hle : HLe C.hb H
  kle : Mem.le C.kb K
theorem Agr.up {hb H : Heap} {b0 β β' : Nat → Nat → BT} (h : Agr hb b0 β) (hl : HLe hb H) (h' : Agr H β β') : Agr hb b0 β' := fun i v ho => (h' i v (hl i v ho)).trans (h i v ho)

def addB (β : Nat → Nat → BT) (n v : Nat) (b : BT) : Nat → Nat → BT := fun i u => if i = n ∧ u = v then b else β i u
theorem addB_at {β : Nat → Nat → BT} {n v : Nat} {b : BT} : addB β n v b n v = b := by unfold addB; rw [if_pos ⟨rfl, rfl⟩]
theorem addB_ne {β : Nat → Nat → BT} {n v i u : Nat} {b : BT} (h : i ≠ n ∨ u ≠ v) : addB β n v b i u = β i u := by unfold addB; rw [if_neg (by omega)]
theorem addB_agr {β : Nat → Nat → BT} {H : Heap} {v : Nat} {b : BT} : Agr H β (addB β H.length v b) := fun i u h => addB_ne (.inl (by have := h.lt; omega))
theorem hp_new (w : World) (o : Obj) : (w.alloc o).heap[w.heap.size]? = some o := by
  show (w.heap.push o)[w.heap.size]? = _
  simp
theorem hp_old (w : World) (o : Obj) {r : Nat} (h : r < w.heap.size) : (w.alloc o).heap[r]? = w.heap[r]? := by
  show (w.heap.push o)[r]? = _
  rw [Array.getElem?_push, if_neg (by omega)]
theorem split_new {H : Heap} {b : Blk} {i : Nat} {x : Blk} (hx : (H ++ [some b])[i]? = some (some x)) : (H[i]? = some (some x) ∧ i < H.length) ∨ (i = H.length ∧ x = b) := by
  by_cases hi : i < H.length
  · rw [List.getElem?_append_left hi] at hx; exact .inl ⟨hx, hi⟩
  · rw [List.getElem?_append_right (by omega)] at hx
    by_cases he : i - H.length = 0
    · rw [he] at hx; simp at hx; exact .inr ⟨by omega, hx.symm⟩
    · rw [List.getElem?_eq_none (by simp; omega)] at hx; cases hx
theorem WS.real {C : Ctx} {K : Mem} {β : Nat → Nat → BT} {H : Heap} {w : World} (h : WS C K β H w) {id : Nat} {b : Blk} (hb : H[id]? = some (some b)) (hr : (β id b.ver).st = .cells) : CellsR K β (β id b.ver) b (w.heap[(β id b.ver).blk]?) := by
  have := h.blk id b hb
  unfold BlkR at this
  rwa [hr] at this
theorem WS.nil {C : Ctx} {K : Mem} {β : Nat → Nat → BT} {H : Heap} {w : World} (h : WS C K β H w) {id : Nat} {b : Blk} (hb : H[id]? = some (some b)) (hr : (β id b.ver).st = .none) : b.cs = [] := by
  have := h.blk id b hb
  unfold BlkR at this
  rwa [hr] at this
theorem WS.mapd {C : Ctx} {K : Mem} {β : Nat → Nat → BT} {H : Heap} {w : World} (h : WS C K β H w) {id : Nat} {b : Blk} (hb : H[id]? = some (some b)) (hr : (β id b.ver).st = .map) : ∃ es ck, w.heap[(β id b.ver).blk]? = some (.map es ck) ∧ EntR K β es ck b.cs := by
  have := h.blk id b hb
  unfold BlkR at this
  rwa [hr] at this
theorem WS.lt {C : Ctx} {K : Mem} {β : Nat → Nat → BT} {H : Heap} {w : World} (h : WS C K β H w) {id : Nat} {b : Blk} (hb : H[id]? = some (some b)) (hr : (β id b.ver).real = true) : (β id b.ver).blk < w.heap.size := by
  cases hs : (β id b.ver).st with
  | none => rw [BT.real_none hs] at hr; cases hr
  | cells => obtain ⟨us, rest, e, _⟩ := h.real hb hs; exact (Array.getElem?_eq_some_iff.1 e).1
  | map => obtain ⟨es, ck, e, _⟩ := h.mapd hb hs; exact (Array.getElem?_eq_some_iff.1 e).1
theorem WS.klt {C : Ctx} {K : Mem} {β : Nat → Nat → BT} {H : Heap} {w : World} (h : WS C K β H w) {b : Nat} {c : Obj} (hb : K b = some c) : b < w.heap.size := (Array.getElem?_eq_some_iff.1 (h.holds b c hb)).1
theorem WS.cell {C : Ctx} {K : Mem} {β : Nat → Nat → BT} {H : Heap} {w : World} (h : WS C K β H w) {a : Addr} {u : Value} (hu : K.cell a = some u) : w.cell? a = some u := by
  unfold Mem.cell at hu
  cases hk : K a.block with
  | none => simp [hk] at hu
  | some o =>
    have hw := h.holds _ _ hk
    rw [hk] at hu
    unfold World.cell?
    rw [hw]; exact hu

/-- A new block that nobody changes any more. -/
def Mem.add (K : Mem) (b : Nat) (c : Obj) : Mem := fun i => if i = b then some c else K i
theorem WS.fresh {C : Ctx} {K : Mem} {β : Nat → Nat → BT} {H : Heap} {w : World} (h : WS C K β H w) : K w.heap.size = none := by
  cases hk : K w.heap.size with
  | none => rfl
  | some c => exact absurd (h.klt hk) (Nat.lt_irrefl _)
theorem Mem.le_add {K : Mem} {b : Nat} {c : Obj} (h : K b = none) : Mem.le K (K.add b c) := by
  intro i x hx
  unfold Mem.add
  by_cases e : i = b
  · subst e; rw [h] at hx; cases hx
  · rw [if_neg e]; exact hx
theorem EntR.mono {K K' : Mem} {β β' : Nat → Nat → BT} {es : Array MapEntry} {ck : Nat} {cs : List D} (h : EntR K β es ck cs) (hK : Mem.le K K') {H : Heap} (ho : ∀ c ∈ cs, OkD H c) (hβ : Agr H β β') : EntR K' β' es ck cs := by
  refine ⟨h.len, fun j u d hu hd => ?_, h.born, h.clock⟩
  obtain ⟨dv, rfl, hdv⟩ := h.rd j u d hu hd
  refine ⟨dv, rfl, hdv.mono hK (fun _ => ?_) hβ⟩
  cases ho _ (List.mem_of_getElem? hd) with
  | tup _ h => exact h dv (by simp)
theorem BlkR.mono {K K' : Mem} {β β' : Nat → Nat → BT} {t : BT} {b : Blk} {o : Option Obj} (h : BlkR K β t b o) (hK : Mem.le K K') {H : Heap} (ho : ∀ c ∈ b.cs, OkD H c) (hβ : Agr H β β') : BlkR K' β' t b o := by
  unfold BlkR at *
  cases hs : t.st with
  | none => rw [hs] at h; exact h
  | cells =>
    rw [hs] at h
    obtain ⟨us, rest, e, hl, ht, hg, hd⟩ := h
    exact ⟨us, rest, e, hl, ht, hg, fun j u d hu hd' => (hd j u d hu hd').mono hK (fun _ => ho d (List.mem_of_getElem? hd')) hβ⟩
  | map =>
    rw [hs] at h
    obtain ⟨es, ck, e, hE⟩ := h
    exact ⟨es, ck, e, hE.mono hK ho hβ⟩
theorem BlkR.other {K : Mem} {β : Nat → Nat → BT} {t : BT} {b : Blk} {o o' : Option Obj} (h : BlkR K β t b o) (ho : t.real = true → o' = o) : BlkR K β t b o' := by
  unfold BlkR at *
  cases hs : t.st with
  | none => rw [hs] at h; exact h
  | cells => rw [hs] at h; rw [ho (BT.real_of hs)]; exact h
  | map => rw [hs] at h; rw [ho (BT.real_ofm hs)]; exact h
/-- More memory that stays, and a world that has what there was. -/
theorem WS.ext {C : Ctx} {K K' : Mem} {β : Nat → Nat → BT} {H : Heap} {w w' : World} (h : WS C K β H w) (hK : Mem.le K K')
    (hn : ∀ b c, K' b = some c → K b = some c ∨ w.heap.size ≤ b) (hh : ∀ b o, K' b = some o → w'.heap[b]? = some o) (hb : Below w.heap.size w w') : WS C K' β H w' where
  holds := hh
  blk id b hb' := ((h.blk id b hb').mono hK (h.ok id b hb') (Agr.refl _ _)).other fun hr => hb.block _ (h.lt hb' hr)
  ok := h.ok
  inj := h.inj
  apart id b hb' hr := by
    cases hk : K' (β id b.ver).blk with
    | none => rfl
    | some c =>
      rcases hn _ _ hk with h1 | h1
      · rw [h.apart id b hb' hr] at h1; cases h1
      · have := h.lt hb' hr; omega
  base := h.base
  size := Nat.le_trans h.size hb.size
  below := h.below.under hb h.size
  agr := h.agr
  hle := h.hle
  kle := h.kle.trans hK
theorem WS.drew {C : Ctx} {K : Mem} {β : Nat → Nat → BT} {H : Heap} {w : World} (h : WS C K β H w) : WS C K β H w.drew :=
  h.ext (Mem.le.refl K) (fun _ _ h => .inl h) h.holds (Below.refl _ w).drew
/-- A new block that stays as it is. -/
theorem WS.stillO {C : Ctx} {K : Mem} {β : Nat → Nat → BT} {H : Heap} {w : World} (h : WS C K β H w) (o : Obj) : WS C (K.add w.heap.size o) β H (w.alloc o) := by
  refine h.ext (Mem.le_add h.fresh) (fun b x hb => ?_) (fun b x hb => ?_) ((Below.refl _ w).alloc (Nat.le_refl _) _)
  · unfold Mem.add at hb
    by_cases he : b = w.heap.size
    · exact .inr (by omega)
    · rw [if_neg he] at hb; exact .inl hb
  · unfold Mem.add at hb
    by_cases he : b = w.heap.size
    · subst he; simp at hb; subst hb; exact hp_new w _
    · rw [if_neg he] at hb
      rw [hp_old w _ (h.klt hb)]; exact h.holds b x hb
theorem WS.still {C : Ctx} {K : Mem} {β : Nat → Nat → BT} {H : Heap} {w : World} (h : WS C K β H w) (c : Array Value) (e : TypeId) (f : Nat × Nat) : WS C (K.add w.heap.size (.cells c e f)) β H (w.alloc (.cells c e f)) := h.stillO _
/-- A new block of the call's own. -/
theorem WS.newO {C : Ctx} {K : Mem} {β : Nat → Nat → BT} {H : Heap} {w : World} (h : WS C K β H w) (o : Obj) (t : BT) (b : Blk) (ht : t.blk = w.heap.size) (hR : BlkR K β t b (some o)) (ho : ∀ c ∈ b.cs, OkD H c) :
    WS C K (addB β H.length b.ver t) (H ++ [some b]) (w.alloc o) := by
  have hβ : ∀ i v, i < H.length → addB β H.length b.ver t i v = β i v := fun i v hi => addB_ne (.inl (by omega))
  constructor
  case holds =>
    intro i c hc
    rw [hp_old w _ (h.klt hc)]; exact h.holds i c hc
  case blk =>
    intro i x hx
    rcases split_new hx with ⟨hx, hi⟩ | ⟨rfl, rfl⟩
    · rw [hβ i _ hi]
      exact ((h.blk i x hx).mono (Mem.le.refl K) (h.ok i x hx) addB_agr).other fun hr => hp_old w _ (h.lt hx hr)
    · rw [addB_at, ht, hp_new]
      exact hR.mono (Mem.le.refl K) ho addB_agr
  case ok =>
    intro i x hx c hc
    rcases split_new hx with ⟨hx, hi⟩ | ⟨rfl, rfl⟩
    · exact (h.ok i x hx c hc).mono (HLe.app _ _)
    · exact (ho c hc).mono (HLe.app _ _)
  case inj =>
    intro i j x y hx hy hri hrj he
    rcases split_new hx with ⟨hx1, hi⟩ | ⟨rfl, rfl⟩ <;> rcases split_new hy with ⟨hy1, hj⟩ | ⟨rfl, rfl⟩
    · rw [hβ i _ hi] at he hri; rw [hβ j _ hj] at he hrj; exact h.inj i j x y hx1 hy1 hri hrj he
    · rw [hβ i _ hi] at he hri; rw [addB_at, ht] at he; have := h.lt hx1 hri; omega
    · rw [hβ j _ hj] at he hrj; rw [addB_at, ht] at he; have := h.lt hy1 hrj; omega
    · rfl
  case apart =>
    intro i x hx hr
    rcases split_new hx with ⟨hx, hi⟩ | ⟨rfl, rfl⟩
    · rw [hβ i _ hi] at hr ⊢; exact h.apart i x hx hr
    · rw [addB_at, ht]; exact h.fresh
  case base =>
    intro i x hx hr
    rcases split_new hx with ⟨hx, hi⟩ | ⟨rfl, rfl⟩
    · rw [hβ i _ hi] at hr ⊢; exact h.base i x hx hr
    · rw [addB_at, ht]; exact .inl h.size
  case size => simp; have := h.size; omega
  case below => exact h.below.under ((Below.refl _ w).alloc (Nat.le_refl _) _) h.size
  case agr => exact h.agr.up h.hle addB_agr
  case hle => exact h.hle.trans (HLe.app _ _)
  case kle => exact h.kle
theorem WS.new {C : Ctx} {K : Mem} {β : Nat → Nat → BT} {H : Heap} {w : World} (h : WS C K β H w) (us rest : List Value) (b : Blk) (hl : us.length = b.cs.length) (hg : b.grow = false → rest = [])
    (hd : ∀ (j : Nat) u d, us[j]? = some u → b.cs[j]? = some d → DR K β true u d) (ho : ∀ c ∈ b.cs, OkD H c) :
    WS C K (addB β H.length b.ver ⟨w.heap.size, us.length + rest.length, .cells⟩) (H ++ [some b]) (w.alloc (.cells (us ++ rest).toArray b.e)) :=
  h.newO _ ⟨w.heap.size, us.length + rest.length, .cells⟩ b rfl ⟨us, rest, rfl, hl, rfl, hg, hd⟩ ho
/-- A new map of the call's own. -/
theorem WS.newMap {C : Ctx} {K : Mem} {β : Nat → Nat → BT} {H : Heap} {w : World} (h : WS C K β H w) (e : TypeId) : WS C K (addB β H.length 0 ⟨w.heap.size, 0, .map⟩) (H ++ [some ⟨[], e, false, 0⟩]) (w.alloc (.map #[] 0)) :=
  h.newO _ ⟨w.heap.size, 0, .map⟩ ⟨[], e, false, 0⟩ rfl ⟨#[], 0, rfl, rfl, by simp, by simp, by simp⟩ (by simp)
/-- A row of the call's own that is nil as yet. -/
theorem WS.newNil {C : Ctx} {K : Mem} {β : Nat → Nat → BT} {H : Heap} {w : World} (h : WS C K β H w) (e : TypeId) : WS C K (addB β H.length 0 ⟨0, 0, .none⟩) (H ++ [some ⟨[], e, true, 0⟩]) w := by
  have hβ : ∀ i v, i < H.length → addB β H.length 0 ⟨0, 0, .none⟩ i v = β i v := fun i v hi => addB_ne (.inl (by omega))
  refine ⟨h.holds, fun i x hx => ?_, fun i x hx c hc => ?_, fun i j x y hx hy hri hrj he => ?_, fun i x hx hr => ?_, fun i x hx hr => ?_, h.size, h.below, h.agr.up h.hle addB_agr, h.hle.trans (HLe.app _ _), h.kle⟩
  · rcases split_new hx with ⟨hx, hi⟩ | ⟨rfl, rfl⟩
    · rw [hβ i _ hi]; exact (h.blk i x hx).mono (Mem.le.refl K) (h.ok i x hx) addB_agr
    · rw [addB_at]; rfl
  · rcases split_new hx with ⟨hx, hi⟩ | ⟨rfl, rfl⟩
    · exact (h.ok i x hx c hc).mono (HLe.app _ _)
    · simp at hc
  · rcases split_new hx with ⟨hx1, hi⟩ | ⟨rfl, rfl⟩ <;> rcases split_new hy with ⟨hy1, hj⟩ | ⟨rfl, rfl⟩
    · rw [hβ i _ hi] at he hri; rw [hβ j _ hj] at he hrj; exact h.inj i j x y hx1 hy1 hri hrj he
    · rw [addB_at] at hrj; simp [BT.real] at hrj
    · rw [addB_at] at hri; simp [BT.real] at hri
    · rfl
  · rcases split_new hx with ⟨hx, hi⟩ | ⟨rfl, rfl⟩
    · rw [hβ i _ hi] at hr ⊢; exact h.apart i x hx hr
    · rw [addB_at] at hr; simp [BT.real] at hr
  · rcases split_new hx with ⟨hx, hi⟩ | ⟨rfl, rfl⟩
    · rw [hβ i _ hi] at hr ⊢; exact h.base i x hx hr
    · rw [addB_at] at hr; simp [BT.real] at hr
/-! ### What bears no data is let go -/
def Mem.del (K : Mem) (r : Nat) : Mem := fun b => if b = r then none else K b
/-- No cells, no map. -/
def inert (o : Obj) : Prop := (∀ c e f, o ≠ .cells c e f) ∧ ∀ es ck, o ≠ .map es ck
theorem del_cell {K : Mem} {r : Nat} {o : Obj} (hr : K r = some o) (ho : inert o) {a : Addr} {u : Value} (h : K.cell a = some u) : (K.del r).cell a = some u := by
  unfold Mem.cell Mem.del at *
  by_cases e : a.block = r
  · rw [e, hr] at h
    cases o <;> first | exact absurd rfl (ho.1 _ _ _) | cases h
  · rw [if_neg e]; exact h
theorem del_map {K : Mem} {r : Nat} {o : Obj} (hr : K r = some o) (ho : inert o) {b : Nat} {es : Array MapEntry} {ck : Nat} (h : K b = some (.map es ck)) : (K.del r) b = some (.map es ck) := by
  unfold Mem.del
  by_cases e : b = r
  · subst e; rw [hr] at h; cases h; exact absurd rfl (ho.2 _ _)
  · rw [if_neg e]; exact h
theorem DR.drop {K : Mem} {β : Nat → Nat → BT} {m : Bool} {x : Value} {d : D} (h : DR K β m x d) {r : Nat} {o : Obj} (hr : K r = some o) (ho : inert o) : DR (K.del r) β m x d := by
  induction h with
  | any m x => exact .any _ _
  | v m x => exact .v _ _
  | agg m us cs hl _ ih => exact .agg _ us cs hl fun j u d hu hd => ih j u d hu hd
  | tup m us cs hl _ ih => exact .tup _ us cs hl fun j u d hu hd => ih j u d hu hd
  | fn m f us cs hl _ ih => exact .fn _ f us cs hl fun j u d hu hd => ih j u d hu hd
  | iface m t u d _ ih => exact .iface _ t u d ih
  | mp m r es ck ks cs hk hl hc _ ih => exact .mp _ r es ck ks cs (del_map hr ho hk) hl hc fun j u d hu hd => ih j u d hu hd
  | rd m A n c us cs hn hl hc _ ih => exact .rd _ A n c us cs hn hl (fun j u hu => (hc j u hu).imp fun _ h => ⟨h.1, del_cell hr ho h.2⟩) fun j u d hu hd => ih j u d hu hd
  | adr m ad us cs hl hc _ ih => exact .adr _ ad us cs hl (fun j u hu => del_cell hr ho (hc j u hu)) fun j u d hu hd => ih j u d hu hd
  | own id ver off n sz c h1 h2 h3 h4 => exact .own _ _ _ _ _ _ h1 h2 h3 h4
  | own0 id ver sz h => exact .own0 _ _ _ h
  | ptr id ver off h => exact .ptr _ _ _ h
  | omp id ver h => exact .omp _ _ h
theorem BlkR.drop {K : Mem} {β : Nat → Nat → BT} {t : BT} {b : Blk} {o' : Option Obj} (h : BlkR K β t b o') {r : Nat} {o : Obj} (hr : K r = some o) (ho : inert o) : BlkR (K.del r) β t b o' := by
  unfold BlkR at *
  cases hs : t.st with
  | none => rw [hs] at h; exact h
  | cells =>
    rw [hs] at h
    obtain ⟨us, rest, e, hl, ht, hg, hd⟩ := h
    exact ⟨us, rest, e, hl, ht, hg, fun j u d hu hd' => (hd j u d hu hd').drop hr ho⟩
  | map =>
    rw [hs] at h
    obtain ⟨es, ck, e, hE⟩ := h
    refine ⟨es, ck, e, hE.len, fun j u d hu hd => ?_, hE.born, hE.clock⟩
    obtain ⟨dv, rfl, hdv⟩ := hE.rd j u d hu hd
    exact ⟨dv, rfl, hdv.drop hr ho⟩
/-- A block that bears no data is let go: whatever it becomes. -/
theorem WS.drop {C : Ctx} {K : Mem} {β : Nat → Nat → BT} {H : Heap} {w : World} (h : WS C K β H w) {r : Nat} {o : Obj} (hr : K r = some o) (ho : inert o) (hB : C.B ≤ r) (hkb : C.kb r = none) (o' : Obj) : WS C (K.del r) β H (w.putObj r o') := by
  have hne : ∀ {id : Nat} {b : Blk}, H[id]? = some (some b) → (β id b.ver).real = true → (β id b.ver).blk ≠ r := fun hb hrl e => by
    have := h.apart _ _ hb hrl
    rw [e, hr] at this; cases this
  refine ⟨fun b c hc => ?_, fun id b hb => ?_, h.ok, h.inj, fun id b hb hrl => ?_, h.base, by rw [World.putObj_size]; exact h.size, ?_, h.agr, h.hle, fun b c hb => by
    unfold Mem.del
    rw [if_neg (fun e => by rw [e, hkb] at hb; cases hb)]; exact h.kle b c hb⟩
  · unfold Mem.del at hc
    by_cases e : b = r
    · rw [if_pos e] at hc; cases hc
    · rw [if_neg e] at hc; rw [World.putObj_heap_other e]; exact h.holds b c hc
  · exact ((h.blk id b hb).drop hr ho).other fun hrl => World.putObj_heap_other (hne hb hrl)
  · unfold Mem.del
    rw [if_neg (hne hb hrl)]; exact h.apart id b hb hrl
  · exact h.below.other (.inl hB) rfl rfl rfl (by rw [World.putObj_size]; exact Nat.le_refl _) fun k hk => World.putObj_heap_other hk
/-- The marks of ranges over functions that are behind: each names its block; no call lies there. -/
def Marks (B : Nat) (K : Mem) : List Deferred → Prop
  | [] => True
  | d :: ds => (∃ r, d.target = .collected r ∧ K r = some (.deferred (some [])) ∧ B ≤ r ∧ ∀ d' ∈ ds, d'.target ≠ .collected r) ∧ Marks B K ds
theorem Marks.mono {B : Nat} {K K' : Mem} (hK : Mem.le K K') : ∀ {ds : List Deferred}, Marks B K ds → Marks B K' ds
  | [], _ => trivial
  | _ :: _, ⟨⟨r, h1, h2, h3, h4⟩, h⟩ => ⟨⟨r, h1, hK _ _ h2, h3, h4⟩, h.mono hK⟩
theorem Marks.del {B : Nat} {K : Mem} {r : Nat} : ∀ {ds : List Deferred}, Marks B K ds → (∀ d ∈ ds, d.target ≠ .collected r) → Marks B (K.del r) ds
  | [], _, _ => trivial
  | d :: ds, ⟨⟨r', h1, h2, h3, h4⟩, h⟩, hn => by
    refine ⟨⟨r', h1, ?_, h3, h4⟩, h.del fun x hx => hn x (by simp [hx])⟩
    unfold Mem.del
    rw [if_neg (fun e => hn d (by simp) (by rw [h1, e]))]; exact h2
theorem inert_def (ds : Option (List Deferred)) : inert (.deferred ds) := by
  constructor
  · intro c e f h; cases h
  · intro es ck h; cases h
theorem inert_loop (r : Loop) : inert (.loop r) := by
  constructor
  · intro c e f h; cases h
  · intro es ck h; cases h
end Go.DL
