/-
  What the laws stand on, part 1 of 4: plain lemmas; no condition.
-/
import Derived.Test.YtoekdjdgeleelaaRows
import Derived.KernelRfl
import Derived.WalkKit
import Derived.RangeFuncIn
import Derived.RangeFuncRecord
import Derived.RangeFuncLeaves
import Derived.OrdersIn
import Derived.TacticsIn
import Derived.Scope
import Derived.Deep.LoopGhost
import Derived.RegionTactic
import Derived.Below
import Derived.Laws.Rows
import Derived.Laws.MakeOwn
import Derived.Laws.CopyRow
import Derived.Laws.CopyOwn
import Derived.OwnWalk
import Derived.Maps.AppendAt
import Derived.Deep.OwnRows
import Derived.CheckFast
import Derived.Laws.BytesArg
import Derived.Laws.BytesString
import Derived.Laws.Small
import Derived.Laws.Strings
import Derived.Lib.UnsafeStr
import Derived.OpenShut
import Derived.ShutString
import Derived.ChangeOld
import Derived.Carry
import Derived.Laws.Tables
import Derived.Laws.StructEq
import Derived.Laws.Bits64
import Derived.Laws.IdiomStrings
import Derived.Shelf.SlSortCmp.NoneTotal
import Derived.Shelf.SlicesG.Cmp
import Derived.Shelf.SlicesG.CompactI
import Derived.Shelf.SortG.Plain
import Derived.Shelf.SortG.SortNone
import Derived.Lib.AppendStr
import Derived.ProofKit
set_option linter.unusedSimpArgs false
set_option linter.unusedVariables false
set_option linter.unusedSectionVars false
namespace Go.DL
open Go.RowKit

theorem sz_of {P : Program} {e : TypeId} {z : Option Value} {n b : Nat} (h : (P.info? e).map (fun i => (i.zero, i.size, i.bytes)) = some (z, n, b)) : (P.info? e).map (·.size) = some n := by
  obtain ⟨i, h1, h2⟩ := Option.map_eq_some_iff.1 h
  cases h2
  rw [h1]; rfl
theorem z_of {P : Program} {e : TypeId} {z : Option Value} {n b : Nat} (h : (P.info? e).map (fun i => (i.zero, i.size, i.bytes)) = some (z, n, b)) : (P.info? e).map (·.zero) = some z := by
  obtain ⟨i, h1, h2⟩ := Option.map_eq_some_iff.1 h
  cases h2
  rw [h1]; rfl
inductive D where
  | any
  | v (x : Value)
  | agg (cs : List D)
  | tup (ds : List D)
  | fn (f : Fn) (cs : List D)
  | iface (t : TypeId) (d : D)
  | mp (ks : List Value) (cs : List D)
  | rd (n : Nat) (cs : List D)
  | adr (cs : List D)
  | own (id ver off n sz : Nat)
  | ptr (id ver off : Nat)
  | omp (id ver : Nat)

abbrev Mem := Nat → Option Obj
def Mem.cell (K : Mem) (a : Addr) : Option Value := match K a.block with | some (.cells c _ _) => if a.spot.isSome then none else c[a.off]? | _ => none
def Mem.le (K K' : Mem) : Prop := ∀ b c, K b = some c → K' b = some c
theorem Mem.le.refl (K : Mem) : Mem.le K K := fun _ _ h => h
theorem Mem.le.trans {K K' K'' : Mem} (h : Mem.le K K') (h' : Mem.le K' K'') : Mem.le K K'' := fun b c x => h' b c (h b c x)
theorem Mem.le.cell {K K' : Mem} (h : Mem.le K K') {a : Addr} {u : Value} (hu : K.cell a = some u) : K'.cell a = some u := by
  unfold Mem.cell at *
  cases hk : K a.block with
  | none => simp [hk] at hu
  | some c => rw [h _ _ hk]; rw [hk] at hu; exact hu

/-- Where a block of the call's own lies, and how many cells it has in all; not 'real': there is none yet (a slice that is nil). -/
inductive BS where
  | none
  | cells
  | map
  deriving DecidableEq
structure BT where
  blk : Nat
  tot : Nat
  st : BS
def BT.real (t : BT) : Bool := match t.st with
  | .none => false
  | _ => true
theorem BT.real_of {t : BT} (h : t.st = .cells) : t.real = true := by unfold BT.real; rw [h]
theorem BT.real_ofm {t : BT} (h : t.st = .map) : t.real = true := by unfold BT.real; rw [h]
theorem BT.real_none {t : BT} (h : t.st = .none) : t.real = false := by unfold BT.real; rw [h]
/-- A value reads as_ a datum; 'm': may it name blocks of the call's own? -/
inductive DR (K : Mem) (β : Nat → Nat → BT) : Bool → Value → D → Prop
  | any (m) (x) : DR K β m x .any
  | v (m) (x) : DR K β m x (.v x)
  | agg (m) (us : List Value) (cs : List D) (hl : us.length = cs.length) (hd : ∀ (j : Nat) u d, us[j]? = some u → cs[j]? = some d → DR K β m u d) : DR K β m (.agg us.toArray) (.agg cs)
  | tup (m) (us : List Value) (cs : List D) (hl : us.length = cs.length) (hd : ∀ (j : Nat) u d, us[j]? = some u → cs[j]? = some d → DR K β m u d) : DR K β m (.tuple us.toArray) (.tup cs)
  | fn (m) (f : Fn) (us : List Value) (cs : List D) (hl : us.length = cs.length) (hd : ∀ (j : Nat) u d, us[j]? = some u → cs[j]? = some d → DR K β m u d) : DR K β m (.func f #[] us.toArray) (.fn f cs)
  | iface (m) (t : TypeId) (u : Value) (d : D) (hd : DR K β m u d) : DR K β m (.iface t u) (.iface t d)
  | mp (m) (r : Nat) (es : Array MapEntry) (ck : Nat) (ks : List Value) (cs : List D) (hk : K r = some (.map es ck)) (hl : es.toList.map (·.key) = ks) (hc : es.size = cs.length)
      (hd : ∀ (j : Nat) u d, es[j]? = some u → cs[j]? = some d → DR K β false u.val d) : DR K β m (.map (some r)) (.mp ks cs)
  | rd (m) (A : Option Addr) (n c : Nat) (us : List Value) (cs : List D) (hn : n ≤ c) (hl : us.length = cs.length)
      (hc : ∀ (j : Nat) u, us[j]? = some u → ∃ ad, A = some ad ∧ K.cell (ad.add j) = some u)
      (hd : ∀ (j : Nat) u d, us[j]? = some u → cs[j]? = some d → DR K β false u d) : DR K β m (.slice A n c) (.rd n cs)
  | adr (m) (ad : Addr) (us : List Value) (cs : List D) (hl : us.length = cs.length)
      (hc : ∀ (j : Nat) u, us[j]? = some u → K.cell (ad.add j) = some u)
      (hd : ∀ (j : Nat) u d, us[j]? = some u → cs[j]? = some d → DR K β false u d) : DR K β m (.pointer (some ad)) (.adr cs)
  | own (id ver off n sz c : Nat) (hn : n ≤ c) (hm : c ≤ maxLen) (hc : off + c * sz = (β id ver).tot) (hr : (β id ver).st = .cells) : DR K β true (.slice (some ⟨(β id ver).blk, off, none⟩) n c) (.own id ver off n sz)
  | own0 (id ver sz : Nat) (hr : (β id ver).st = .none) : DR K β true (.slice none 0 0) (.own id ver 0 0 sz)
  | ptr (id ver off : Nat) (hr : (β id ver).st = .cells) : DR K β true (.pointer (some ⟨(β id ver).blk, off, none⟩)) (.ptr id ver off)
  | omp (id ver : Nat) (hr : (β id ver).st = .map) : DR K β true (.map (some (β id ver).blk)) (.omp id ver)

structure Blk where
  cs : List D
  e : TypeId
  grow : Bool
  ver : Nat
abbrev Heap := List (Option Blk)
/-- Block id has come to version v. -/
def okV (H : Heap) (id v : Nat) : Prop := match H[id]? with
  | some (some b) => v ≤ b.ver
  | some none => True
  | none => False
def HLe (H H' : Heap) : Prop := ∀ id v, okV H id v → okV H' id v
theorem HLe.refl (H : Heap) : HLe H H := fun _ _ h => h
theorem HLe.trans {H H' H'' : Heap} (h : HLe H H') (h' : HLe H' H'') : HLe H H'' := fun i v x => h' i v (h i v x)
theorem okV.lt {H : Heap} {id v : Nat} (h : okV H id v) : id < H.length := by
  unfold okV at h
  rcases Nat.lt_or_ge id H.length with h1 | h1
  · exact h1
  · rw [List.getElem?_eq_none h1] at h; exact h.elim
theorem HLe.app (H : Heap) (x : Option Blk) : HLe H (H ++ [x]) := fun i v h => by
  have := h.lt
  unfold okV at *
  rw [List.getElem?_append_left this]; exact h
theorem okV_new (H : Heap) (b : Blk) : okV (H ++ [some b]) H.length b.ver := by
  unfold okV
  rw [List.getElem?_append_right (Nat.le_refl _)]; simp
theorem HLe.set {H : Heap} {id : Nat} {b b' : Blk} (hb : H[id]? = some (some b)) (hv : b.ver ≤ b'.ver) : HLe H (H.set id (some b')) := fun i v h => by
  unfold okV at *
  rw [List.getElem?_set]
  by_cases e : id = i
  · subst e
    rw [if_pos rfl, if_pos (List.getElem?_eq_some_iff.1 hb).1]
    rw [hb] at h
    exact Nat.le_trans h hv
  · rw [if_neg e]; exact h
theorem HLe.kill (H : Heap) (id : Nat) : HLe H (H.set id none) := fun i v h => by
  have := h.lt
  unfold okV at *
  rw [List.getElem?_set]
  by_cases e : id = i
  · subst e; rw [if_pos rfl, if_pos this]; trivial
  · rw [if_neg e]; exact h
/-- All blocks that a datum names are there, and have come to the version named. -/
inductive OkD (H : Heap) : D → Prop
  | any : OkD H .any
  | v (x) : OkD H (.v x)
  | agg (cs : List D) (h : ∀ c ∈ cs, OkD H c) : OkD H (.agg cs)
  | tup (cs : List D) (h : ∀ c ∈ cs, OkD H c) : OkD H (.tup cs)
  | fn (f : Fn) (cs : List D) (h : ∀ c ∈ cs, OkD H c) : OkD H (.fn f cs)
  | iface (t d) (h : OkD H d) : OkD H (.iface t d)
  | mp (ks cs) : OkD H (.mp ks cs)
  | rd (n cs) : OkD H (.rd n cs)
  | adr (cs) : OkD H (.adr cs)
  | own (id ver off n sz) (h : okV H id ver) : OkD H (.own id ver off n sz)
  | ptr (id ver off) (h : okV H id ver) : OkD H (.ptr id ver off)
  | omp (id ver) (h : okV H id ver) : OkD H (.omp id ver)
theorem OkD.mono {H H' : Heap} {d : D} (h : OkD H d) (hb : HLe H H') : OkD H' d := by
  induction h with
  | any => exact .any
  | v x => exact .v x
  | agg cs _ ih => exact .agg cs ih
  | tup cs _ ih => exact .tup cs ih
  | fn f cs _ ih => exact .fn f cs ih
  | iface t d _ ih => exact .iface _ _ ih
  | mp ks cs => exact .mp _ _
  | rd n cs => exact .rd n cs
  | adr cs => exact .adr cs
  | own id ver off n sz h => exact .own _ _ _ _ _ (hb _ _ h)
  | ptr id ver off h => exact .ptr _ _ _ (hb _ _ h)
  | omp id ver h => exact .omp _ _ (hb _ _ h)
/-- Two tables of blocks tell the same of what there is. -/
def Agr (H : Heap) (β β' : Nat → Nat → BT) : Prop := ∀ i v, okV H i v → β' i v = β i v
theorem Agr.refl (H : Heap) (β : Nat → Nat → BT) : Agr H β β := fun _ _ _ => rfl

theorem DR.pure {K : Mem} {β β' : Nat → Nat → BT} {m : Bool} {x : Value} {d : D} (h : DR K β m x d) (hm : m = false) : DR K β' m x d := by
  induction h with
  | any m x => exact .any _ _
  | v m x => exact .v _ _
  | agg m us cs hl _ ih => exact .agg _ us cs hl fun j u d hu hd => ih j u d hu hd hm
  | tup m us cs hl _ ih => exact .tup _ us cs hl fun j u d hu hd => ih j u d hu hd hm
  | fn m f us cs hl _ ih => exact .fn _ f us cs hl fun j u d hu hd => ih j u d hu hd hm
  | iface m t u d _ ih => exact .iface _ t u d (ih hm)
  | mp m r es ck ks cs hk hl hc _ ih => exact .mp _ r es ck ks cs hk hl hc fun j u d hu hd => ih j u d hu hd rfl
  | rd m A n c us cs hn hl hc _ ih => exact .rd _ A n c us cs hn hl hc fun j u d hu hd => ih j u d hu hd rfl
  | adr m ad us cs hl hc _ ih => exact .adr _ ad us cs hl hc fun j u d hu hd => ih j u d hu hd rfl
  | own => cases hm
  | own0 => cases hm
  | ptr => cases hm
  | omp => cases hm
theorem DR.up {K : Mem} {β : Nat → Nat → BT} {m : Bool} {x : Value} {d : D} (h : DR K β m x d) (hm : m = false) : DR K β true x d := by
  induction h with
  | any m x => exact .any _ _
  | v m x => exact .v _ _
  | agg m us cs hl _ ih => exact .agg _ us cs hl fun j u d hu hd => ih j u d hu hd hm
  | tup m us cs hl _ ih => exact .tup _ us cs hl fun j u d hu hd => ih j u d hu hd hm
  | fn m f us cs hl _ ih => exact .fn _ f us cs hl fun j u d hu hd => ih j u d hu hd hm
  | iface m t u d _ ih => exact .iface _ t u d (ih hm)
  | mp m r es ck ks cs hk hl hc hd ih => exact .mp _ r es ck ks cs hk hl hc hd
  | rd m A n c us cs hn hl hc hd ih => exact .rd _ A n c us cs hn hl hc hd
  | adr m ad us cs hl hc hd ih => exact .adr _ ad us cs hl hc hd
  | own => cases hm
  | own0 => cases hm
  | ptr => cases hm
  | omp => cases hm
theorem DR.mono {K K' : Mem} {β β' : Nat → Nat → BT} {m : Bool} {x : Value} {d : D} (h : DR K β m x d) (hK : Mem.le K K') {H : Heap} (ho : m = true → OkD H d) (hβ : Agr H β β') : DR K' β' m x d := by
  induction h with
  | any m x => exact .any _ _
  | v m x => exact .v _ _
  | agg m us cs hl _ ih =>
    refine .agg _ us cs hl fun j u d hu hd => ih j u d hu hd fun hm => ?_
    cases ho hm with
    | agg _ h => exact h d (List.mem_of_getElem? hd)
  | tup m us cs hl _ ih =>
    refine .tup _ us cs hl fun j u d hu hd => ih j u d hu hd fun hm => ?_
    cases ho hm with
    | tup _ h => exact h d (List.mem_of_getElem? hd)
  | fn m f us cs hl _ ih =>
    refine .fn _ f us cs hl fun j u d hu hd => ih j u d hu hd fun hm => ?_
    cases ho hm with
    | fn _ _ h => exact h d (List.mem_of_getElem? hd)
  | iface m t u d _ ih =>
    refine .iface _ t u d (ih fun hm => ?_)
    cases ho hm with
    | iface _ _ h => exact h
  | mp m r es ck ks cs hk hl hc _ ih => exact .mp _ r es ck ks cs (hK _ _ hk) hl hc fun j u d hu hd => ih j u d hu hd (by intro h; cases h)
  | rd m A n c us cs hn hl hc _ ih =>
    refine .rd _ A n c us cs hn hl (fun j u hu => ?_) fun j u d hu hd => ih j u d hu hd (by intro h; cases h)
    obtain ⟨ad, e, hk⟩ := hc j u hu
    exact ⟨ad, e, hK.cell hk⟩
  | adr m ad us cs hl hc _ ih =>
    exact .adr _ ad us cs hl (fun j u hu => hK.cell (hc j u hu)) fun j u d hu hd => ih j u d hu hd (by intro h; cases h)
  | own id ver off n sz c hn hm hc hr =>
    cases ho rfl with
    | own _ _ _ _ _ h => rw [← hβ id ver h] at hc hr ⊢; exact .own id ver off n sz c hn hm hc hr
  | own0 id ver sz hr =>
    cases ho rfl with
    | own _ _ _ _ _ h => rw [← hβ id ver h] at hr; exact .own0 id ver sz hr
  | ptr id ver off hr =>
    cases ho rfl with
    | ptr _ _ _ h => rw [← hβ id ver h] at hr ⊢; exact .ptr id ver off hr
  | omp id ver hr =>
    cases ho rfl with
    | omp _ _ h => rw [← hβ id ver h] at hr ⊢; exact .omp id ver hr

theorem DR.okp {K : Mem} {β : Nat → Nat → BT} {m : Bool} {x : Value} {d : D} (h : DR K β m x d) (hm : m = false) {H : Heap} : OkD H d := by
  induction h with
  | any m x => exact .any
  | v m x => exact .v _
  | agg m us cs hl hd ih =>
    refine .agg _ fun c hc => ?_
    obtain ⟨j, hj⟩ := List.getElem?_of_mem hc
    have hlt : j < us.length := by rw [hl]; exact (List.getElem?_eq_some_iff.1 hj).1
    exact ih j _ c (List.getElem?_eq_getElem hlt) hj hm
  | tup m us cs hl hd ih =>
    refine .tup _ fun c hc => ?_
    obtain ⟨j, hj⟩ := List.getElem?_of_mem hc
    have hlt : j < us.length := by rw [hl]; exact (List.getElem?_eq_some_iff.1 hj).1
    exact ih j _ c (List.getElem?_eq_getElem hlt) hj hm
  | fn m f us cs hl hd ih =>
    refine .fn _ _ fun c hc => ?_
    obtain ⟨j, hj⟩ := List.getElem?_of_mem hc
    have hlt : j < us.length := by rw [hl]; exact (List.getElem?_eq_some_iff.1 hj).1
    exact ih j _ c (List.getElem?_eq_getElem hlt) hj hm
  | iface m t u d _ ih => exact .iface _ _ (ih hm)
  | mp m r es ck ks cs => exact .mp _ _
  | rd m A n c us cs => exact .rd _ _
  | adr m ad us cs => exact .adr _
  | own => cases hm
  | own0 => cases hm
  | ptr => cases hm
  | omp => cases hm
theorem DR.v_inv {K : Mem} {β : Nat → Nat → BT} {m : Bool} {x y : Value} (h : DR K β m x (.v y)) : x = y := by cases h; rfl
theorem DR.rd_inv {K : Mem} {β : Nat → Nat → BT} {m : Bool} {x : Value} {n : Nat} {cs : List D} (h : DR K β m x (.rd n cs)) : ∃ (A : Option Addr) (c : Nat) (us : List Value), x = .slice A n c ∧ n ≤ c ∧ us.length = cs.length ∧
    (∀ (j : Nat) u, us[j]? = some u → ∃ ad, A = some ad ∧ K.cell (ad.add j) = some u) ∧ (∀ (j : Nat) u d, us[j]? = some u → cs[j]? = some d → DR K β false u d) := by
  cases h with
  | rd _ A n c us cs hn hl hc hd => exact ⟨A, c, us, rfl, hn, hl, hc, hd⟩
theorem DR.adr_inv {K : Mem} {β : Nat → Nat → BT} {m : Bool} {x : Value} {cs : List D} (h : DR K β m x (.adr cs)) : ∃ (ad : Addr) (us : List Value), x = .pointer (some ad) ∧ us.length = cs.length ∧
    (∀ (j : Nat) u, us[j]? = some u → K.cell (ad.add j) = some u) ∧ (∀ (j : Nat) u d, us[j]? = some u → cs[j]? = some d → DR K β false u d) := by
  cases h with
  | adr _ ad us cs hl hc hd => exact ⟨ad, us, rfl, hl, hc, hd⟩
theorem DR.agg_inv {K : Mem} {β : Nat → Nat → BT} {m : Bool} {x : Value} {cs : List D} (h : DR K β m x (.agg cs)) : ∃ us : List Value, x = .agg us.toArray ∧ us.length = cs.length ∧ (∀ (j : Nat) u d, us[j]? = some u → cs[j]? = some d → DR K β m u d) := by
  cases h with
  | agg _ us cs hl hd => exact ⟨us, rfl, hl, hd⟩
theorem DR.fn_inv {K : Mem} {β : Nat → Nat → BT} {m : Bool} {x : Value} {f : Fn} {cs : List D} (h : DR K β m x (.fn f cs)) : ∃ us : List Value, x = .func f #[] us.toArray ∧ us.length = cs.length ∧ (∀ (j : Nat) u d, us[j]? = some u → cs[j]? = some d → DR K β m u d) := by
  cases h with
  | fn _ _ us cs hl hd => exact ⟨us, rfl, hl, hd⟩
theorem DR.tup_inv {K : Mem} {β : Nat → Nat → BT} {m : Bool} {x : Value} {cs : List D} (h : DR K β m x (.tup cs)) : ∃ us : List Value, x = .tuple us.toArray ∧ us.length = cs.length ∧ (∀ (j : Nat) u d, us[j]? = some u → cs[j]? = some d → DR K β m u d) := by
  cases h with
  | tup _ us cs hl hd => exact ⟨us, rfl, hl, hd⟩
theorem DR.own_inv {K : Mem} {β : Nat → Nat → BT} {m : Bool} {x : Value} {id ver off n sz : Nat} (h : DR K β m x (.own id ver off n sz)) : (∃ c, x = .slice (some ⟨(β id ver).blk, off, none⟩) n c ∧ n ≤ c ∧ c ≤ maxLen ∧ off + c * sz = (β id ver).tot ∧ (β id ver).st = .cells) ∨ (x = .slice none 0 0 ∧ off = 0 ∧ n = 0 ∧ (β id ver).st = .none) := by
  cases h with
  | own _ _ _ _ _ c hn hm hc hr => exact .inl ⟨c, rfl, hn, hm, hc, hr⟩
  | own0 _ _ _ hr => exact .inr ⟨rfl, rfl, rfl, hr⟩
theorem DR.own_len {K : Mem} {β : Nat → Nat → BT} {m : Bool} {x : Value} {id ver off n sz : Nat} (h : DR K β m x (.own id ver off n sz)) : ∃ A c, x = .slice A n c ∧ n ≤ c := by
  rcases h.own_inv with ⟨c, e, hc, _⟩ | ⟨e, _, h0, _⟩
  · exact ⟨_, c, e, hc⟩
  · subst h0; exact ⟨_, 0, e, Nat.le_refl _⟩
theorem DR.iface_inv {K : Mem} {β : Nat → Nat → BT} {m : Bool} {x : Value} {t : TypeId} {d : D} (h : DR K β m x (.iface t d)) : ∃ u, x = .iface t u ∧ DR K β m u d := by
  cases h with
  | iface _ _ u _ hd => exact ⟨u, rfl, hd⟩
theorem DR.omp_inv {K : Mem} {β : Nat → Nat → BT} {m : Bool} {x : Value} {id ver : Nat} (h : DR K β m x (.omp id ver)) : x = .map (some (β id ver).blk) ∧ (β id ver).st = .map := by
  cases h with
  | omp _ _ hr => exact ⟨rfl, hr⟩
theorem DR.ptr_inv {K : Mem} {β : Nat → Nat → BT} {m : Bool} {x : Value} {id ver off : Nat} (h : DR K β m x (.ptr id ver off)) : x = .pointer (some ⟨(β id ver).blk, off, none⟩) ∧ (β id ver).st = .cells := by
  cases h with
  | ptr _ _ _ hr => exact ⟨rfl, hr⟩

/-- The entries of a map: keys that are known, values that read so; each has a stamp of its own, below the clock. -/
structure EntR (K : Mem) (β : Nat → Nat → BT) (es : Array MapEntry) (ck : Nat) (cs : List D) : Prop where
  len : es.size = cs.length
  rd : ∀ (j : Nat) u d, es[j]? = some u → cs[j]? = some d → ∃ dv, d = .tup [.v u.key, dv] ∧ DR K β true u.val dv
  born : ∀ (i j : Nat) u v, i < j → es[i]? = some u → es[j]? = some v → u.born < v.born
  clock : ∀ (j : Nat) u, es[j]? = some u → u.born < ck
/-- Block t of the world holds these cells; more may stand behind them, where the row may grow. -/
def CellsR (K : Mem) (β : Nat → Nat → BT) (t : BT) (b : Blk) (o : Option Obj) : Prop := ∃ us rest : List Value, o = some (.cells (us ++ rest).toArray b.e (0, 0)) ∧ us.length = b.cs.length ∧ us.length + rest.length = t.tot ∧ (b.grow = false → rest = []) ∧ ∀ (j : Nat) u d, us[j]? = some u → b.cs[j]? = some d → DR K β true u d
def BlkR (K : Mem) (β : Nat → Nat → BT) (t : BT) (b : Blk) (o : Option Obj) : Prop := match t.st with
  | .none => b.cs = []
  | .cells => CellsR K β t b o
  | .map => ∃ es ck, o = some (.map es ck) ∧ EntR K β es ck b.cs

/-! ### A fence that lets all in; at a round, its record -/
/-- All functions, any depth; the frames are of the round r, if it is one. -/
def FW (r : Option Nat) : Fence := { fn := fun _ => True, depth := none, alive := false, round := r }
theorem fenced_FW (r : Option Nat) (P : Program) (m : Machine) : m.fenced P (FW r) := by
  intro g _
  refine ⟨fun h => ?_, Or.inl trivial, fun _ _ => trivial, fun _ h => ?_⟩
  · simp [FW] at h
  · simp [FW] at h
theorem room_FW (r : Option Nat) (n : Nat) : (FW r).room n := fun _ h => by simp [FW] at h
theorem comes_FW {r : Option Nat} {P : Program} {m m' : Machine} {e : Ending} (h : Comes P m m' e) : ComesIn (Machine.fenced P (FW r)) P m m' e := by
  cases e with
  | outgrown => exact h
  | returned v => exact (StepsIn.of_steps h).mono fun m _ => fenced_FW r P m
  | panicked chain => exact (StepsIn.of_steps h).mono fun m _ => fenced_FW r P m
theorem calls_FW {r : Option Nat} {n : Nat} {P : Program} {f : FuncId} {args : Array Value} {w : World} {R : Ending → World → Prop} (h : Calls P f args w R) : CallsIn (FW r) n P f args w R :=
  ⟨trivial, fun cs _ => let ⟨e, w', fr, hr, s, x⟩ := h cs; ⟨e, w', fr, hr, comes_FW s, x⟩⟩
theorem rows_FW {r : Option Nat} {n : Nat} {P : Program} {row : String} {args : Array Value} {w : World} {R : Value → World → Prop} (h : Rows P row args w R) : RowsIn (FW r) n P row args w R :=
  fun c cs _ => let ⟨v, w', hr, s⟩ := h c cs; ⟨v, w', hr, (StepsIn.of_steps s).mono fun m _ => fenced_FW r P m⟩
theorem upon_FW {r : Option Nat} {P : Program} {o : Oper} {a : Act} {Kc : Act → World → Prop} {Q : Exit → Act → World → Prop} {x : Result Next} (h : o.upon P a Kc Q x) : o.uponIn (FW r) 0 P a Kc Q x := by
  cases x with
  | ok x w' =>
    cases x <;> first
      | exact h
      | exact h.elim
      | exact ⟨fun e => by simp [FW] at e, calls_FW h⟩
      | exact ⟨fun e => by simp [FW] at e, rows_FW h⟩
  | halt x w' => cases x <;> first | exact h | exact h.elim
/-- An operation whose outcome is told. -/
theorem wpIn_FW {r : Option Nat} {P : Program} {o : Oper} {a : Act} {w : World} {Kc : Act → World → Prop} {Q : Exit → Act → World → Prop} (hd : ∀ c, o.op ≠ .defer c) (h : o.upon P a Kc Q ((execOp a.eval o).run P w)) : o.wpIn (FW r) 0 P a w Kc Q :=
  ⟨fun _ _ => trivial, by rw [Oper.semAt_eq _ _ _ hd]; exact upon_FW h⟩
theorem defer_run {P : Program} {o : Oper} {ρ : Operand → Value} {w w' : World} {x : Next} (h : (execOp ρ o).run P w = .ok x w') (hx : ∀ d, x ≠ .defer d) : ∀ c, o.op ≠ .defer c := by
  intro c hc
  have e : execOp ρ o = (do return .defer (← resolve ρ c o.type)) := by unfold execOp; rw [hc]
  rw [e, Sem.run_bind] at h
  cases hr : (resolve ρ c o.type).run P w with
  | ok d w1 => rw [hr] at h; simp [Result.andThen] at h; exact hx d h.1.symm
  | halt y w1 => rw [hr] at h; simp [Result.andThen] at h
theorem wpIn_loop_ghost {F : Fence} {n : Nat} {P : Program} {Q : Exit → Act → World → Prop} {a : Act} {w : World} {c : Code} (I : Nat → Act → World → Prop) (n₀ : Nat) (h₀ : I n₀ a w)
    (round : ∀ k a w, I k a w → c.wpIn F n P (Exit.then (fun a' w' => ∃ n', n' < k ∧ I n' a' w') Q) a w) : (Code.loop c).wpIn F n P Q a w := by
  refine wpIn_loop (fun a w => ∃ n, I n a w) (fun a w => leastOf (fun n => I n a w)) ⟨n₀, h₀⟩ ?_
  intro a w hI
  refine wpIn_mono (round _ a w (leastOf_spec hI).1) ?_
  intro e a' w' hq
  cases e with
  | normal =>
    obtain ⟨n', hlt, hI'⟩ := hq
    exact show (∃ n, I n a' w') ∧ leastOf (fun n => I n a' w') < leastOf (fun n => I n a w) from ⟨⟨n', hI'⟩, Nat.lt_of_le_of_lt ((leastOf_spec ⟨n', hI'⟩).2 n' hI') hlt⟩
  | exit id => exact hq
  | goto l => exact hq
  | ret => exact hq
  | panic ch => exact hq
  | outgrown => exact hq
theorem listW_step {r : Option Nat} {P : Program} {ops : Array Oper} {Q : Exit → Act → World → Prop} {o : Oper} {rest : List Oper} {a : Act} {w : World}
    (h : ∀ Kc : Act → World → Prop, (∀ a w, wpListIn (FW r) 0 P ops Q rest a w → Kc a w) → if Region.wanted o (yielded ops a.tmps) then o.wpIn (FW r) 0 P a w Kc Q else Kc (a.put o.dst undef) w) : wpListIn (FW r) 0 P ops Q (o :: rest) a w := by
  have h1 := h _ fun _ _ h => h
  unfold wpListIn
  split
  · rename_i hw; rw [if_pos hw] at h1; exact h1
  · rename_i hw; rw [if_neg hw] at h1; exact ⟨fun _ _ => trivial, h1⟩
theorem listW_plain {r : Option Nat} {P : Program} {ops : Array Oper} {Q : Exit → Act → World → Prop} {o : Oper} {rest : List Oper} {a : Act} {w : World} (hg : o.guard = none)
    (h : ∀ Kc : Act → World → Prop, (∀ a w, wpListIn (FW r) 0 P ops Q rest a w → Kc a w) → o.wpIn (FW r) 0 P a w Kc Q) : wpListIn (FW r) 0 P ops Q (o :: rest) a w :=
  listW_step fun Kc hK => by rw [show Region.wanted o (yielded ops a.tmps) = true by simp [Region.wanted, hg], if_pos rfl]; exact h Kc hK

/-- Where a call began: below block B all is as_ it was, but for the blocks that were given (G). -/
structure Ctx where
  B : Nat
  W : World
  G : Nat → Prop
  rd : Option Nat
  hb : Heap
  b0 : Nat → Nat → BT
  kb : Mem
def Ctx.owns (C : Ctx) (k : Nat) : Prop := C.B ≤ k ∨ C.G k
structure Bel (C : Ctx) (w : World) : Prop where
  os : w.os = C.W.os
  tape : w.tape = C.W.tape
  output : w.output = C.W.output
  size : C.W.heap.size ≤ w.heap.size
  block : ∀ k, k < C.B → ¬ C.G k → w.heap[k]? = C.W.heap[k]?
theorem Bel.under {C : Ctx} {w w' : World} {B : Nat} (h : Bel C w) (hb : Below B w w') (hB : C.B ≤ B) : Bel C w' :=
  ⟨hb.os.trans h.os, hb.tape.trans h.tape, hb.output.trans h.output, Nat.le_trans h.size hb.size, fun k hk hg => (hb.block k (by omega)).trans (h.block k hk hg)⟩
theorem Bel.other {C : Ctx} {w w' : World} {g : Nat} (h : Bel C w) (hg : C.owns g) (h1 : w'.os = w.os) (h2 : w'.tape = w.tape) (h3 : w'.output = w.output) (h4 : w.heap.size ≤ w'.heap.size) (h5 : ∀ k, k ≠ g → w'.heap[k]? = w.heap[k]?) : Bel C w' :=
  ⟨h1.trans h.os, h2.trans h.tape, h3.trans h.output, Nat.le_trans h.size h4, fun k hk hn => (h5 k (by rintro rfl; rcases hg with h | h; omega; exact hn h)).trans (h.block k hk hn)⟩
theorem Bel.grown {C : Ctx} {w w' : World} {row : Option Nat} (h : Bel C w) (hg : w.grownBy w' row) (hB : C.B ≤ w.heap.size) (hr : ∀ k, row = some k → C.owns k) : Bel C w' :=
  ⟨hg.os.trans h.os, hg.tape.trans h.tape, hg.output.trans h.output, Nat.le_trans h.size hg.size, fun k hk hn => (hg.block k (by omega) (fun e => by rcases hr k e.symm with h | h; omega; exact hn h)).trans (h.block k hk hn)⟩
structure WS (C : Ctx) (K : Mem) (β : Nat → Nat → BT) (H : Heap) (w : World) : Prop where
  holds : ∀ b o, K b = some o → w.heap[b]? = some o
  blk : ∀ (id : Nat) b, H[id]? = some (some b) → BlkR K β (β id b.ver) b (w.heap[(β id b.ver).blk]?)
  ok : ∀ (id : Nat) b, H[id]? = some (some b) → ∀ c ∈ b.cs, OkD H c
  inj : ∀ (i j : Nat) b b', H[i]? = some (some b) → H[j]? = some (some b') → (β i b.ver).real = true → (β j b'.ver).real = true → (β i b.ver).blk = (β j b'.ver).blk → i = j
  apart : ∀ (id : Nat) b, H[id]? = some (some b) → (β id b.ver).real = true → K (β id b.ver).blk = none
  base : ∀ (id : Nat) b, H[id]? = some (some b) → (β id b.ver).real = true → C.owns (β id b.ver).blk
  size : C.B ≤ w.heap.size
  below : Bel C w
  agr : Agr C.hb C.b0 β
  hle : HLe C.hb H
  kle : Mem.le C.kb K
theorem Agr.up {hb H : Heap} {b0 β β' : Nat → Nat → BT} (h : Agr hb b0 β) (hl : HLe hb H) (h' : Agr H β β') : Agr hb b0 β' := fun i v ho => (h' i v (hl i v ho)).trans (h i v ho)

def addB (β : Nat → Nat → BT) (n v : Nat) (b : BT) : Nat → Nat → BT := fun i u => if i = n ∧ u = v then b else β i u
theorem addB_at {β : Nat → Nat → BT} {n v : Nat} {b : BT} : addB β n v b n v = b := by unfold addB; rw [if_pos ⟨rfl, rfl⟩]
theorem addB_ne {β : Nat → Nat → BT} {n v i u : Nat} {b : BT} (h : i ≠ n ∨ u ≠ v) : addB β n v b i u = β i u := by unfold addB; rw [if_neg (by omega)]
theorem addB_agr {β : Nat → Nat → BT} {H : Heap} {v : Nat} {b : BT} : Agr H β (addB β H.length v b) := fun i u h => addB_ne (.inl (by have := h.lt; omega))
theorem hp_new (w : World) (o : Obj) : (w.alloc o).heap[w.heap.size]? = some o := by
  show (w.heap.push o)[w.heap.size]? = _
  simp
theorem hp_old (w : World) (o : Obj) {r : Nat} (h : r < w.heap.size) : (w.alloc o).heap[r]? = w.heap[r]? := by
  show (w.heap.push o)[r]? = _
  rw [Array.getElem?_push, if_neg (by omega)]
theorem split_new {H : Heap} {b : Blk} {i : Nat} {x : Blk} (hx : (H ++ [some b])[i]? = some (some x)) : (H[i]? = some (some x) ∧ i < H.length) ∨ (i = H.length ∧ x = b) := by
  by_cases hi : i < H.length
  · rw [List.getElem?_append_left hi] at hx; exact .inl ⟨hx, hi⟩
  · rw [List.getElem?_append_right (by omega)] at hx
    by_cases he : i - H.length = 0
    · rw [he] at hx; simp at hx; exact .inr ⟨by omega, hx.symm⟩
    · rw [List.getElem?_eq_none (by simp; omega)] at hx; cases hx
theorem WS.real {C : Ctx} {K : Mem} {β : Nat → Nat → BT} {H : Heap} {w : World} (h : WS C K β H w) {id : Nat} {b : Blk} (hb : H[id]? = some (some b)) (hr : (β id b.ver).st = .cells) : CellsR K β (β id b.ver) b (w.heap[(β id b.ver).blk]?) := by
  have := h.blk id b hb
  unfold BlkR at this
  rwa [hr] at this
theorem WS.nil {C : Ctx} {K : Mem} {β : Nat → Nat → BT} {H : Heap} {w : World} (h : WS C K β H w) {id : Nat} {b : Blk} (hb : H[id]? = some (some b)) (hr : (β id b.ver).st = .none) : b.cs = [] := by
  have := h.blk id b hb
  unfold BlkR at this
  rwa [hr] at this
theorem WS.mapd {C : Ctx} {K : Mem} {β : Nat → Nat → BT} {H : Heap} {w : World} (h : WS C K β H w) {id : Nat} {b : Blk} (hb : H[id]? = some (some b)) (hr : (β id b.ver).st = .map) : ∃ es ck, w.heap[(β id b.ver).blk]? = some (.map es ck) ∧ EntR K β es ck b.cs := by
  have := h.blk id b hb
  unfold BlkR at this
  rwa [hr] at this
theorem WS.lt {C : Ctx} {K : Mem} {β : Nat → Nat → BT} {H : Heap} {w : World} (h : WS C K β H w) {id : Nat} {b : Blk} (hb : H[id]? = some (some b)) (hr : (β id b.ver).real = true) : (β id b.ver).blk < w.heap.size := by
  cases hs : (β id b.ver).st with
  | none => rw [BT.real_none hs] at hr; cases hr
  | cells => obtain ⟨us, rest, e, _⟩ := h.real hb hs; exact (Array.getElem?_eq_some_iff.1 e).1
  | map => obtain ⟨es, ck, e, _⟩ := h.mapd hb hs; exact (Array.getElem?_eq_some_iff.1 e).1
theorem WS.klt {C : Ctx} {K : Mem} {β : Nat → Nat → BT} {H : Heap} {w : World} (h : WS C K β H w) {b : Nat} {c : Obj} (hb : K b = some c) : b < w.heap.size := (Array.getElem?_eq_some_iff.1 (h.holds b c hb)).1
theorem WS.cell {C : Ctx} {K : Mem} {β : Nat → Nat → BT} {H : Heap} {w : World} (h : WS C K β H w) {a : Addr} {u : Value} (hu : K.cell a = some u) : w.cell? a = some u := by
  unfold Mem.cell at hu
  cases hk : K a.block with
  | none => simp [hk] at hu
  | some o =>
    have hw := h.holds _ _ hk
    rw [hk] at hu
    unfold World.cell?
    rw [hw]; exact hu

/-- A new block that nobody changes any more. -/
def Mem.add (K : Mem) (b : Nat) (c : Obj) : Mem := fun i => if i = b then some c else K i
theorem WS.fresh {C : Ctx} {K : Mem} {β : Nat → Nat → BT} {H : Heap} {w : World} (h : WS C K β H w) : K w.heap.size = none := by
  cases hk : K w.heap.size with
  | none => rfl
  | some c => exact absurd (h.klt hk) (Nat.lt_irrefl _)
theorem Mem.le_add {K : Mem} {b : Nat} {c : Obj} (h : K b = none) : Mem.le K (K.add b c) := by
  intro i x hx
  unfold Mem.add
  by_cases e : i = b
  · subst e; rw [h] at hx; cases hx
  · rw [if_neg e]; exact hx
theorem EntR.mono {K K' : Mem} {β β' : Nat → Nat → BT} {es : Array MapEntry} {ck : Nat} {cs : List D} (h : EntR K β es ck cs) (hK : Mem.le K K') {H : Heap} (ho : ∀ c ∈ cs, OkD H c) (hβ : Agr H β β') : EntR K' β' es ck cs := by
  refine ⟨h.len, fun j u d hu hd => ?_, h.born, h.clock⟩
  obtain ⟨dv, rfl, hdv⟩ := h.rd j u d hu hd
  refine ⟨dv, rfl, hdv.mono hK (fun _ => ?_) hβ⟩
  cases ho _ (List.mem_of_getElem? hd) with
  | tup _ h => exact h dv (by simp)
theorem BlkR.mono {K K' : Mem} {β β' : Nat → Nat → BT} {t : BT} {b : Blk} {o : Option Obj} (h : BlkR K β t b o) (hK : Mem.le K K') {H : Heap} (ho : ∀ c ∈ b.cs, OkD H c) (hβ : Agr H β β') : BlkR K' β' t b o := by
  unfold BlkR at *
  cases hs : t.st with
  | none => rw [hs] at h; exact h
  | cells =>
    rw [hs] at h
    obtain ⟨us, rest, e, hl, ht, hg, hd⟩ := h
    exact ⟨us, rest, e, hl, ht, hg, fun j u d hu hd' => (hd j u d hu hd').mono hK (fun _ => ho d (List.mem_of_getElem? hd')) hβ⟩
  | map =>
    rw [hs] at h
    obtain ⟨es, ck, e, hE⟩ := h
    exact ⟨es, ck, e, hE.mono hK ho hβ⟩
theorem BlkR.other {K : Mem} {β : Nat → Nat → BT} {t : BT} {b : Blk} {o o' : Option Obj} (h : BlkR K β t b o) (ho : t.real = true → o' = o) : BlkR K β t b o' := by
  unfold BlkR at *
  cases hs : t.st with
  | none => rw [hs] at h; exact h
  | cells => rw [hs] at h; rw [ho (BT.real_of hs)]; exact h
  | map => rw [hs] at h; rw [ho (BT.real_ofm hs)]; exact h
/-- More memory that stays, and a world that has what there was. -/
theorem WS.ext {C : Ctx} {K K' : Mem} {β : Nat → Nat → BT} {H : Heap} {w w' : World} (h : WS C K β H w) (hK : Mem.le K K')
    (hn : ∀ b c, K' b = some c → K b = some c ∨ w.heap.size ≤ b) (hh : ∀ b o, K' b = some o → w'.heap[b]? = some o) (hb : Below w.heap.size w w') : WS C K' β H w' where
  holds := hh
  blk id b hb' := ((h.blk id b hb').mono hK (h.ok id b hb') (Agr.refl _ _)).other fun hr => hb.block _ (h.lt hb' hr)
  ok := h.ok
  inj := h.inj
  apart id b hb' hr := by
    cases hk : K' (β id b.ver).blk with
    | none => rfl
    | some c =>
      rcases hn _ _ hk with h1 | h1
      · rw [h.apart id b hb' hr] at h1; cases h1
      · have := h.lt hb' hr; omega
  base := h.base
  size := Nat.le_trans h.size hb.size
  below := h.below.under hb h.size
  agr := h.agr
  hle := h.hle
  kle := h.kle.trans hK
theorem WS.drew {C : Ctx} {K : Mem} {β : Nat → Nat → BT} {H : Heap} {w : World} (h : WS C K β H w) : WS C K β H w.drew :=
  h.ext (Mem.le.refl K) (fun _ _ h => .inl h) h.holds (Below.refl _ w).drew
/-- A new block that stays as_ it is. -/
theorem WS.stillO {C : Ctx} {K : Mem} {β : Nat → Nat → BT} {H : Heap} {w : World} (h : WS C K β H w) (o : Obj) : WS C (K.add w.heap.size o) β H (w.alloc o) := by
  refine h.ext (Mem.le_add h.fresh) (fun b x hb => ?_) (fun b x hb => ?_) ((Below.refl _ w).alloc (Nat.le_refl _) _)
  · unfold Mem.add at hb
    by_cases he : b = w.heap.size
    · exact .inr (by omega)
    · rw [if_neg he] at hb; exact .inl hb
  · unfold Mem.add at hb
    by_cases he : b = w.heap.size
    · subst he; simp at hb; subst hb; exact hp_new w _
    · rw [if_neg he] at hb
      rw [hp_old w _ (h.klt hb)]; exact h.holds b x hb
theorem WS.still {C : Ctx} {K : Mem} {β : Nat → Nat → BT} {H : Heap} {w : World} (h : WS C K β H w) (c : Array Value) (e : TypeId) (f : Nat × Nat) : WS C (K.add w.heap.size (.cells c e f)) β H (w.alloc (.cells c e f)) := h.stillO _
/-- A new block of the call's own. -/
theorem WS.newO {C : Ctx} {K : Mem} {β : Nat → Nat → BT} {H : Heap} {w : World} (h : WS C K β H w) (o : Obj) (t : BT) (b : Blk) (ht : t.blk = w.heap.size) (hR : BlkR K β t b (some o)) (ho : ∀ c ∈ b.cs, OkD H c) :
    WS C K (addB β H.length b.ver t) (H ++ [some b]) (w.alloc o) := by
  have hβ : ∀ i v, i < H.length → addB β H.length b.ver t i v = β i v := fun i v hi => addB_ne (.inl (by omega))
  constructor
  case holds =>
    intro i c hc
    rw [hp_old w _ (h.klt hc)]; exact h.holds i c hc
  case blk =>
    intro i x hx
    rcases split_new hx with ⟨hx, hi⟩ | ⟨rfl, rfl⟩
    · rw [hβ i _ hi]
      exact ((h.blk i x hx).mono (Mem.le.refl K) (h.ok i x hx) addB_agr).other fun hr => hp_old w _ (h.lt hx hr)
    · rw [addB_at, ht, hp_new]
      exact hR.mono (Mem.le.refl K) ho addB_agr
  case ok =>
    intro i x hx c hc
    rcases split_new hx with ⟨hx, hi⟩ | ⟨rfl, rfl⟩
    · exact (h.ok i x hx c hc).mono (HLe.app _ _)
    · exact (ho c hc).mono (HLe.app _ _)
  case inj =>
    intro i j x y hx hy hri hrj he
    rcases split_new hx with ⟨hx1, hi⟩ | ⟨rfl, rfl⟩ <;> rcases split_new hy with ⟨hy1, hj⟩ | ⟨rfl, rfl⟩
    · rw [hβ i _ hi] at he hri; rw [hβ j _ hj] at he hrj; exact h.inj i j x y hx1 hy1 hri hrj he
    · rw [hβ i _ hi] at he hri; rw [addB_at, ht] at he; have := h.lt hx1 hri; omega
    · rw [hβ j _ hj] at he hrj; rw [addB_at, ht] at he; have := h.lt hy1 hrj; omega
    · rfl
  case apart =>
    intro i x hx hr
    rcases split_new hx with ⟨hx, hi⟩ | ⟨rfl, rfl⟩
    · rw [hβ i _ hi] at hr ⊢; exact h.apart i x hx hr
    · rw [addB_at, ht]; exact h.fresh
  case base =>
    intro i x hx hr
    rcases split_new hx with ⟨hx, hi⟩ | ⟨rfl, rfl⟩
    · rw [hβ i _ hi] at hr ⊢; exact h.base i x hx hr
    · rw [addB_at, ht]; exact .inl h.size
  case size => simp; have := h.size; omega
  case below => exact h.below.under ((Below.refl _ w).alloc (Nat.le_refl _) _) h.size
  case agr => exact h.agr.up h.hle addB_agr
  case hle => exact h.hle.trans (HLe.app _ _)
  case kle => exact h.kle
theorem WS.new {C : Ctx} {K : Mem} {β : Nat → Nat → BT} {H : Heap} {w : World} (h : WS C K β H w) (us rest : List Value) (b : Blk) (hl : us.length = b.cs.length) (hg : b.grow = false → rest = [])
    (hd : ∀ (j : Nat) u d, us[j]? = some u → b.cs[j]? = some d → DR K β true u d) (ho : ∀ c ∈ b.cs, OkD H c) :
    WS C K (addB β H.length b.ver ⟨w.heap.size, us.length + rest.length, .cells⟩) (H ++ [some b]) (w.alloc (.cells (us ++ rest).toArray b.e)) :=
  h.newO _ ⟨w.heap.size, us.length + rest.length, .cells⟩ b rfl ⟨us, rest, rfl, hl, rfl, hg, hd⟩ ho
/-- A row of the call's own that is nil as_ yet. -/
theorem WS.newNil {C : Ctx} {K : Mem} {β : Nat → Nat → BT} {H : Heap} {w : World} (h : WS C K β H w) (e : TypeId) : WS C K (addB β H.length 0 ⟨0, 0, .none⟩) (H ++ [some ⟨[], e, true, 0⟩]) w := by
  have hβ : ∀ i v, i < H.length → addB β H.length 0 ⟨0, 0, .none⟩ i v = β i v := fun i v hi => addB_ne (.inl (by omega))
  refine ⟨h.holds, fun i x hx => ?_, fun i x hx c hc => ?_, fun i j x y hx hy hri hrj he => ?_, fun i x hx hr => ?_, fun i x hx hr => ?_, h.size, h.below, h.agr.up h.hle addB_agr, h.hle.trans (HLe.app _ _), h.kle⟩
  · rcases split_new hx with ⟨hx, hi⟩ | ⟨rfl, rfl⟩
    · rw [hβ i _ hi]; exact (h.blk i x hx).mono (Mem.le.refl K) (h.ok i x hx) addB_agr
    · rw [addB_at]; rfl
  · rcases split_new hx with ⟨hx, hi⟩ | ⟨rfl, rfl⟩
    · exact (h.ok i x hx c hc).mono (HLe.app _ _)
    · simp at hc
  · rcases split_new hx with ⟨hx1, hi⟩ | ⟨rfl, rfl⟩ <;> rcases split_new hy with ⟨hy1, hj⟩ | ⟨rfl, rfl⟩
    · rw [hβ i _ hi] at he hri; rw [hβ j _ hj] at he hrj; exact h.inj i j x y hx1 hy1 hri hrj he
    · rw [addB_at] at hrj; simp [BT.real] at hrj
    · rw [addB_at] at hri; simp [BT.real] at hri
    · rfl
  · rcases split_new hx with ⟨hx, hi⟩ | ⟨rfl, rfl⟩
    · rw [hβ i _ hi] at hr ⊢; exact h.apart i x hx hr
    · rw [addB_at] at hr; simp [BT.real] at hr
  · rcases split_new hx with ⟨hx, hi⟩ | ⟨rfl, rfl⟩
    · rw [hβ i _ hi] at hr ⊢; exact h.base i x hx hr
    · rw [addB_at] at hr; simp [BT.real] at hr
/-! ### What bears no data is let go -/
def Mem.del (K : Mem) (r : Nat) : Mem := fun b => if b = r then none else K b
/-- No cells, no map. -/
def inert (o : Obj) : Prop := (∀ c e f, o ≠ .cells c e f) ∧ ∀ es ck, o ≠ .map es ck
theorem del_cell {K : Mem} {r : Nat} {o : Obj} (hr : K r = some o) (ho : inert o) {a : Addr} {u : Value} (h : K.cell a = some u) : (K.del r).cell a = some u := by
  unfold Mem.cell Mem.del at *
  by_cases e : a.block = r
  · rw [e, hr] at h
    cases o <;> first | exact absurd rfl (ho.1 _ _ _) | cases h
  · rw [if_neg e]; exact h
theorem del_map {K : Mem} {r : Nat} {o : Obj} (hr : K r = some o) (ho : inert o) {b : Nat} {es : Array MapEntry} {ck : Nat} (h : K b = some (.map es ck)) : (K.del r) b = some (.map es ck) := by
  unfold Mem.del
  by_cases e : b = r
  · subst e; rw [hr] at h; cases h; exact absurd rfl (ho.2 _ _)
  · rw [if_neg e]; exact h
theorem DR.drop {K : Mem} {β : Nat → Nat → BT} {m : Bool} {x : Value} {d : D} (h : DR K β m x d) {r : Nat} {o : Obj} (hr : K r = some o) (ho : inert o) : DR (K.del r) β m x d := by
  induction h with
  | any m x => exact .any _ _
  | v m x => exact .v _ _
  | agg m us cs hl _ ih => exact .agg _ us cs hl fun j u d hu hd => ih j u d hu hd
  | tup m us cs hl _ ih => exact .tup _ us cs hl fun j u d hu hd => ih j u d hu hd
  | fn m f us cs hl _ ih => exact .fn _ f us cs hl fun j u d hu hd => ih j u d hu hd
  | iface m t u d _ ih => exact .iface _ t u d ih
  | mp m r es ck ks cs hk hl hc _ ih => exact .mp _ r es ck ks cs (del_map hr ho hk) hl hc fun j u d hu hd => ih j u d hu hd
  | rd m A n c us cs hn hl hc _ ih => exact .rd _ A n c us cs hn hl (fun j u hu => (hc j u hu).imp fun _ h => ⟨h.1, del_cell hr ho h.2⟩) fun j u d hu hd => ih j u d hu hd
  | adr m ad us cs hl hc _ ih => exact .adr _ ad us cs hl (fun j u hu => del_cell hr ho (hc j u hu)) fun j u d hu hd => ih j u d hu hd
  | own id ver off n sz c h1 h2 h3 h4 => exact .own _ _ _ _ _ _ h1 h2 h3 h4
  | own0 id ver sz h => exact .own0 _ _ _ h
  | ptr id ver off h => exact .ptr _ _ _ h
  | omp id ver h => exact .omp _ _ h
theorem BlkR.drop {K : Mem} {β : Nat → Nat → BT} {t : BT} {b : Blk} {o' : Option Obj} (h : BlkR K β t b o') {r : Nat} {o : Obj} (hr : K r = some o) (ho : inert o) : BlkR (K.del r) β t b o' := by
  unfold BlkR at *
  cases hs : t.st with
  | none => rw [hs] at h; exact h
  | cells =>
    rw [hs] at h
    obtain ⟨us, rest, e, hl, ht, hg, hd⟩ := h
    exact ⟨us, rest, e, hl, ht, hg, fun j u d hu hd' => (hd j u d hu hd').drop hr ho⟩
  | map =>
    rw [hs] at h
    obtain ⟨es, ck, e, hE⟩ := h
    refine ⟨es, ck, e, hE.len, fun j u d hu hd => ?_, hE.born, hE.clock⟩
    obtain ⟨dv, rfl, hdv⟩ := hE.rd j u d hu hd
    exact ⟨dv, rfl, hdv.drop hr ho⟩
/-- A block that bears no data is let go: whatever it becomes. -/
theorem WS.drop {C : Ctx} {K : Mem} {β : Nat → Nat → BT} {H : Heap} {w : World} (h : WS C K β H w) {r : Nat} {o : Obj} (hr : K r = some o) (ho : inert o) (hB : C.B ≤ r) (hkb : C.kb r = none) (o' : Obj) : WS C (K.del r) β H (w.putObj r o') := by
  have hne : ∀ {id : Nat} {b : Blk}, H[id]? = some (some b) → (β id b.ver).real = true → (β id b.ver).blk ≠ r := fun hb hrl e => by
    have := h.apart _ _ hb hrl
    rw [e, hr] at this; cases this
  refine ⟨fun b c hc => ?_, fun id b hb => ?_, h.ok, h.inj, fun id b hb hrl => ?_, h.base, by rw [World.putObj_size]; exact h.size, ?_, h.agr, h.hle, fun b c hb => by
    unfold Mem.del
    rw [if_neg (fun e => by rw [e, hkb] at hb; cases hb)]; exact h.kle b c hb⟩
  · unfold Mem.del at hc
    by_cases e : b = r
    · rw [if_pos e] at hc; cases hc
    · rw [if_neg e] at hc; rw [World.putObj_heap_other e]; exact h.holds b c hc
  · exact ((h.blk id b hb).drop hr ho).other fun hrl => World.putObj_heap_other (hne hb hrl)
  · unfold Mem.del
    rw [if_neg (hne hb hrl)]; exact h.apart id b hb hrl
  · exact h.below.other (.inl hB) rfl rfl rfl (by rw [World.putObj_size]; exact Nat.le_refl _) fun k hk => World.putObj_heap_other hk
/-- The marks of ranges over functions that are behind: each names its block; no call lies there. -/
def Marks (B : Nat) (K : Mem) : List Deferred → Prop
  | [] => True
  | d :: ds => (∃ r, d.target = .collected r ∧ K r = some (.deferred (some [])) ∧ B ≤ r ∧ ∀ d' ∈ ds, d'.target ≠ .collected r) ∧ Marks B K ds
theorem Marks.mono {B : Nat} {K K' : Mem} (hK : Mem.le K K') : ∀ {ds : List Deferred}, Marks B K ds → Marks B K' ds
  | [], _ => trivial
  | _ :: _, ⟨⟨r, h1, h2, h3, h4⟩, h⟩ => ⟨⟨r, h1, hK _ _ h2, h3, h4⟩, h.mono hK⟩
theorem Marks.del {B : Nat} {K : Mem} {r : Nat} : ∀ {ds : List Deferred}, Marks B K ds → (∀ d ∈ ds, d.target ≠ .collected r) → Marks B (K.del r) ds
  | [], _, _ => trivial
  | d :: ds, ⟨⟨r', h1, h2, h3, h4⟩, h⟩, hn => by
    refine ⟨⟨r', h1, ?_, h3, h4⟩, h.del fun x hx => hn x (by simp [hx])⟩
    unfold Mem.del
    rw [if_neg (fun e => hn d (by simp) (by rw [h1, e]))]; exact h2
theorem inert_def (ds : Option (List Deferred)) : inert (.deferred ds) := by
  constructor
  · intro c e f h; cases h
  · intro es ck h; cases h
theorem inert_loop (r : Loop) : inert (.loop r) := by
  constructor
  · intro c e f h; cases h
  · intro es ck h; cases h
end Go.DL
namespace Go.DL
open Go.RowKit

/-- More memory that stays, all of it from block B on, or given. -/
structure KX (C : Ctx) (K K' : Mem) : Prop where
  le : Mem.le K K'
  new : ∀ b c, K' b = some c → K b = some c ∨ C.owns b
theorem KX.refl (C : Ctx) (K : Mem) : KX C K K := ⟨Mem.le.refl K, fun _ _ h => .inl h⟩
theorem KX.trans {C : Ctx} {K K' K'' : Mem} (h : KX C K K') (h' : KX C K' K'') : KX C K K'' :=
  ⟨h.le.trans h'.le, fun b c x => (h'.new b c x).elim (fun x => h.new b c x) .inr⟩
theorem KX.mono {C C' : Ctx} {K K' : Mem} (h : KX C K K') (hb : ∀ k, C.owns k → C'.owns k) : KX C' K K' := ⟨h.le, fun b c x => (h.new b c x).imp id (hb b)⟩
/-- A call that is given nothing. -/
def bare (w : World) : Ctx := ⟨w.heap.size, w, fun _ => False, none, [], fun _ _ => ⟨0, 0, .none⟩, fun _ => none⟩
theorem bare_owns {w : World} {C : Ctx} (h : C.B ≤ w.heap.size) (k : Nat) (hk : (bare w).owns k) : C.owns k := by
  rcases hk with h1 | h1
  · exact .inl (Nat.le_trans h h1)
  · exact h1.elim

/-- What there was is there: memory that stays, where blocks lie, how far they have come. -/
structure Ext (C : Ctx) (K : Mem) (β : Nat → Nat → BT) (H : Heap) (K' : Mem) (β' : Nat → Nat → BT) (H' : Heap) : Prop where
  kx : KX C K K'
  ag : Agr H β β'
  le : HLe H H'
theorem Ext.refl (C : Ctx) (K : Mem) (β : Nat → Nat → BT) (H : Heap) : Ext C K β H K β H := ⟨KX.refl _ _, Agr.refl _ _, HLe.refl _⟩
theorem Ext.trans {C : Ctx} {K K' K'' : Mem} {β β' β'' : Nat → Nat → BT} {H H' H'' : Heap} (h : Ext C K β H K' β' H') (h' : Ext C K' β' H' K'' β'' H'') : Ext C K β H K'' β'' H'' :=
  ⟨h.kx.trans h'.kx, fun i v hv => (h'.ag i v (h.le i v hv)).trans (h.ag i v hv), h.le.trans h'.le⟩

structure St where
  env : Nat → D
  H : Heap
def ev (env : Nat → D) : Operand → D
  | .tmp t => env t
  | .const v => .v v
  | .global g => .v (.pointer (some ⟨g, 0, none⟩))
  | .func f => .v (.func (.func f) #[] #[])
def upd (env : Nat → D) (k : Nat) (d : D) : Nat → D := fun j => bif Nat.beq j k then d else env j
theorem upd_at (env : Nat → D) (k : Nat) (d : D) : upd env k d k = d := by simp [upd]
theorem upd_ne (env : Nat → D) {k j : Nat} (d : D) (h : j ≠ k) : upd env k d j = env j := by
  unfold upd
  cases hb : Nat.beq j k with
  | false => rfl
  | true => exact absurd (Nat.eq_of_beq_eq_true hb) h
def updO (env : Nat → D) (k : Option Nat) (d : D) : Nat → D := match k with | some k => upd env k d | none => env

structure SR (C : Ctx) (N : Nat) (K : Mem) (β : Nat → Nat → BT) (s : St) (a : Act) (w : World) : Prop where
  ws : WS C K β s.H w
  size : a.tmps.size = N
  defers : Marks C.B K a.defers
  rd : ∀ t, DR K β true (a.tmps.getD t undef) (s.env t)
  ok : ∀ t, OkD s.H (s.env t)
section
variable {C : Ctx} {N : Nat} {K K' : Mem} {β β' : Nat → Nat → BT} {s : St} {a : Act} {w w' : World} {P : Program}
theorem SR.ev (h : SR C N K β s a w) (x : Operand) : DR K β true (a.eval x) (ev s.env x) := by
  cases x with
  | tmp t => exact h.rd t
  | const v => exact .v _ _
  | global g => exact .v _ _
  | func f => exact .v _ _
theorem SR.evok (h : SR C N K β s a w) (x : Operand) : OkD s.H (DL.ev s.env x) := by
  cases x with
  | tmp t => exact h.ok t
  | const v => exact .v _
  | global g => exact .v _
  | func f => exact .v _
def fits (N : Nat) (o : Oper) : Bool := match o.dst with | some d => Nat.blt d N | none => true
theorem SR.put (h : SR C N K β s a w) (hK : Mem.le K K') (hβ : Agr s.H β β') {H' : Heap} (hw : WS C K' β' H' w') (hl : HLe s.H H') {v : Value} {d : D} (hv : DR K' β' true v d) (ho : OkD H' d)
    {o : Oper} (hf : fits N o = true) : SR C N K' β' ⟨updO s.env o.dst d, H'⟩ (a.put o.dst v) w' := by
  unfold fits at hf
  cases hd : o.dst with
  | none => exact ⟨hw, h.size, h.defers.mono hK, fun t => (h.rd t).mono hK (fun _ => h.ok t) hβ, fun t => (h.ok t).mono hl⟩
  | some k =>
    rw [hd] at hf
    have hk : k < N := by simpa [Nat.blt_eq] using hf
    refine ⟨hw, by simp [Act.put, h.size], h.defers.mono hK, fun t => ?_, fun t => ?_⟩
    · show DR K' β' true ((a.tmps.setIfInBounds k v).getD t undef) (upd s.env k d t)
      by_cases e : t = k
      · subst e
        rw [upd_at, Array.getD_eq_getD_getElem?, Array.getElem?_setIfInBounds_self_of_lt (by rw [h.size]; exact hk)]
        exact hv
      · rw [upd_ne _ _ e, Array.getD_eq_getD_getElem?, Array.getElem?_setIfInBounds_ne (Ne.symm e), ← Array.getD_eq_getD_getElem?]
        exact (h.rd t).mono hK (fun _ => h.ok t) hβ
    · show OkD H' (upd s.env k d t)
      by_cases e : t = k
      · subst e; rw [upd_at]; exact ho
      · rw [upd_ne _ _ e]; exact (h.ok t).mono hl
end

/-- What an operation makes: a datum, and the blocks behind it; it looks at its operands alone. -/
structure OpD (P : Program) (C : Ctx) (o : Oper) (env : Nat → D) (H : Heap) (d : D) (H' : Heap) : Prop where
  len : HLe H H'
  go : ∀ K β a w (Kc : Act → World → Prop) (Q : Exit → Act → World → Prop), WS C K β H w → (∀ x ∈ o.op.operands, DR K β true (a.eval x) (ev env x)) → (∀ x ∈ o.op.operands, OkD H (ev env x)) →
    (∀ K' β' v w', KX C K K' → Agr H β β' → WS C K' β' H' w' → DR K' β' true v d → OkD H' d → Kc (a.put o.dst v) w') → o.wpIn (FW C.rd) 0 P a w Kc Q

/-- How code ends, by data. -/
inductive DX where
  | normal
  | exit (id : Nat)
  | goto (l : Nat)
  | ret
  | panic (d : D)
def XR (K : Mem) (β : Nat → Nat → BT) (H : Heap) : Exit → DX → Prop
  | .normal, .normal => True
  | .exit i, .exit j => i = j
  | .goto i, .goto j => i = j
  | .ret, .ret => True
  | .panic ch, .panic d => ∃ v, ch = [{ v, recovered := false }] ∧ DR K β true v d ∧ OkD H d
  | _, _ => False
/-- The state behind code: as_ the relation says, with memory that grew. -/
def AftX (C : Ctx) (N : Nat) (K : Mem) (β : Nat → Nat → BT) (H : Heap) (Q : DX → St → Prop) (e : Exit) (a : Act) (w : World) : Prop := ∃ K' β' s' x, Ext C K β H K' β' s'.H ∧ SR C N K' β' s' a w ∧ XR K' β' s'.H e x ∧ Q x s'
theorem AftX.mono {C : Ctx} {N : Nat} {K K' : Mem} {β β' : Nat → Nat → BT} {H H' : Heap} {Q Q' : DX → St → Prop} {e : Exit} {a : Act} {w : World} (h : AftX C N K' β' H' Q e a w) (hK : Ext C K β H K' β' H') (hF : ∀ x s, Q x s → Q' x s) : AftX C N K β H Q' e a w :=
  let ⟨K'', β'', s', x, h1, h2, h3, h4⟩ := h; ⟨K'', β'', s', x, hK.trans h1, h2, h3, hF _ _ h4⟩

/-- The rest of a region, walked in the text's order. -/
def RG (P : Program) (C : Ctx) (N : Nat) (ops : Array Oper) (rest : List Oper) (s : St) (F : DX → St → Prop) : Prop :=
  ∀ K β a w (Q : Exit → Act → World → Prop), SR C N K β s a w → (∀ e a' w', AftX C N K β s.H F e a' w' → Q e a' w') → wpListIn (FW C.rd) 0 P ops Q rest a w

/-- What a call ends in. -/
inductive DOut where
  | ret (d : D)
  | pan (d : D)
/-- What an operation may make, or throw: as_ R says. -/
structure OpX (P : Program) (C : Ctx) (o : Oper) (env : Nat → D) (H : Heap) (R : DOut → Heap → Prop) : Prop where
  go : ∀ K β a w (Kc : Act → World → Prop) (Q : Exit → Act → World → Prop), WS C K β H w → (∀ x ∈ o.op.operands, DR K β true (a.eval x) (ev env x)) → (∀ x ∈ o.op.operands, OkD H (ev env x)) →
    (∀ K' β' v w' d H', R (.ret d) H' → Ext C K β H K' β' H' → WS C K' β' H' w' → DR K' β' true v d → OkD H' d → Kc (a.put o.dst v) w') →
    (∀ K' β' v w' d H', R (.pan d) H' → Ext C K β H K' β' H' → WS C K' β' H' w' → DR K' β' true v d → OkD H' d → Q (.panic [{ v, recovered := false }]) a w') → o.wpIn (FW C.rd) 0 P a w Kc Q

section
variable {P : Program} {C : Ctx} {N : Nat} {ops : Array Oper} {rest : List Oper} {o : Oper} {s : St} {F : DX → St → Prop}
theorem SR.stay {K K' : Mem} {β β' : Nat → Nat → BT} {s : St} {H' : Heap} {a : Act} {w w' : World} (h : SR C N K β s a w) (hx : Ext C K β s.H K' β' H') (hw : WS C K' β' H' w') : SR C N K' β' ⟨s.env, H'⟩ a w' :=
  ⟨hw, h.size, h.defers.mono hx.kx.le, fun t => (h.rd t).mono hx.kx.le (fun _ => h.ok t) hx.ag, fun t => (h.ok t).mono hx.le⟩
theorem RG.nil (h : F .normal s) : RG P C N ops [] s F := fun K β _ _ _ hs hq => hq _ _ _ ⟨K, β, s, .normal, Ext.refl _ _ _ _, hs, trivial, h⟩
theorem RG.op (d : D) (H' : Heap) (hg : o.guard = none) (hf : fits N o = true) (h : OpD P C o s.env s.H d H') (hr : RG P C N ops rest ⟨updO s.env o.dst d, H'⟩ F) : RG P C N ops (o :: rest) s F := by
  intro K β a w Q hs hq
  refine listW_plain hg fun Kc hK => ?_
  refine h.go K β a w Kc Q hs.ws (fun x _ => hs.ev x) (fun x _ => hs.evok x) fun K' β' v w' hx hβ hw hv ho => hK _ _ ?_
  exact hr K' β' _ w' Q (hs.put hx.le hβ hw h.len hv ho hf) fun e a' w'' hA => hq _ _ _ (hA.mono ⟨hx, hβ, h.len⟩ fun _ _ h => h)
/-- An operation of which only a relation is known, or that may throw. -/
theorem RG.opX (R : DOut → Heap → Prop) (hg : o.guard = none) (hf : fits N o = true) (h : OpX P C o s.env s.H R) (hr : ∀ d H', R (.ret d) H' → RG P C N ops rest ⟨updO s.env o.dst d, H'⟩ F) (hp : ∀ d H', R (.pan d) H' → F (.panic d) ⟨s.env, H'⟩) : RG P C N ops (o :: rest) s F := by
  intro K β a w Q hs hq
  refine listW_plain hg fun Kc hK => ?_
  refine h.go K β a w Kc Q hs.ws (fun x _ => hs.ev x) (fun x _ => hs.evok x) (fun K' β' v w' d H' hR hx hw hv ho => hK _ _ ?_) fun K' β' v w' d H' hR hx hw hv ho => ?_
  · exact hr d H' hR K' β' _ w' Q (hs.put hx.kx.le hx.ag hw hx.le hv ho hf) fun e a' w'' hA => hq _ _ _ (hA.mono hx fun _ _ h => h)
  · exact hq _ _ _ ⟨K', β', ⟨s.env, H'⟩, .panic d, hx, hs.stay hx hw, ⟨v, rfl, hv, ho⟩, hp d H' hR⟩
end

/-- A guarded operation's datum: what it makes where its guard lets it, else nothing. -/
def gd (b : Bool) (d : D) : D := bif b then d else .v undef
theorem yielded_of {K : Mem} {β : Nat → Nat → BT} {ops : Array Oper} {j t : Nat} {a : Act} {b : Bool} (ht : (ops[j]?).bind (·.dst) = some t) (hlt : t < a.tmps.size) (h : DR K β true (a.tmps.getD t undef) (.v (.bool b))) : yielded ops a.tmps j = some b := by
  have e : a.tmps.getD t undef = .bool b := h.v_inv
  unfold yielded
  rw [ht]
  have e' : a.tmps[t]? = some (.bool b) := by
    rw [Array.getElem?_eq_getElem hlt]
    rw [Array.getD_eq_getD_getElem?, Array.getElem?_eq_getElem hlt] at e
    simpa using e
  simp [e']
section
variable {P : Program} {C : Ctx} {N : Nat} {ops : Array Oper} {rest : List Oper} {o : Oper} {s : St} {F : DX → St → Prop}
theorem RG.opg (b : Bool) (j : Nat) (want : Bool) (t : Nat) (d : D) (hg : o.guard = some (j, want)) (ht : (ops[j]?).bind (·.dst) = some t) (hlt : Nat.blt t N = true) (hb : s.env t = .v (.bool b)) (hf : fits N o = true)
    (h : b = want → OpD P C o s.env s.H d s.H) (hr : RG P C N ops rest ⟨updO s.env o.dst (gd (b == want) d), s.H⟩ F) : RG P C N ops (o :: rest) s F := by
  intro K β a w Q hs hq
  have hy : yielded ops a.tmps j = some b := yielded_of ht (by rw [hs.size]; simpa [Nat.blt_eq] using hlt) (hb ▸ hs.rd t)
  refine listW_step fun Kc hK => ?_
  have hw : Region.wanted o (yielded ops a.tmps) = (b == want) := by
    simp only [Region.wanted, hg, hy]
    cases b <;> cases want <;> rfl
  rw [hw]
  cases hbw : (b == want) with
  | true =>
    simp only [if_true]
    have hbw' : b = want := by simpa using hbw
    rw [hbw] at hr
    refine (h hbw').go K β a w Kc Q hs.ws (fun x _ => hs.ev x) (fun x _ => hs.evok x) fun K' β' v w' hx hβ hw hv ho => hK _ _ ?_
    exact hr K' β' _ w' Q (hs.put hx.le hβ hw (HLe.refl _) hv ho hf) fun e a' w'' hA => hq _ _ _ (hA.mono ⟨hx, hβ, HLe.refl _⟩ fun _ _ h => h)
  | false =>
    simp only [Bool.false_eq_true, if_false]
    rw [hbw] at hr
    exact hK _ _ (hr K β _ w Q (hs.put (Mem.le.refl K) (Agr.refl _ _) hs.ws (HLe.refl _) (.v _ _) (.v _) hf) fun e a' w'' hA => hq _ _ _ hA)
end

/-- Code, from a state. -/
def WC (P : Program) (C : Ctx) (N : Nat) (c : Code) (s : St) (Q : DX → St → Prop) : Prop :=
  ∀ K β a w, SR C N K β s a w → c.wpIn (FW C.rd) 0 P (AftX C N K β s.H Q) a w
def thenQ (F : St → Prop) (Q : DX → St → Prop) : DX → St → Prop
  | .normal, s => F s
  | e, s => Q e s
def blkQ (id : Nat) (Q : DX → St → Prop) : DX → St → Prop
  | .exit id', s => if id' = id then Q .normal s else Q (.exit id') s
  | e, s => Q e s
theorem XR.thenQ {K : Mem} {β : Nat → Nat → BT} {H : Heap} {e : Exit} {x : DX} {F : St → Prop} {Q : DX → St → Prop} {s : St} (hx : XR K β H e x) (hne : e ≠ .normal) (h : thenQ F Q x s) : Q x s := by
  cases x with
  | normal => cases e <;> first | exact absurd rfl hne | exact hx.elim
  | _ => exact h
section
variable {P : Program} {C : Ctx} {N : Nat} {s : St} {Q : DX → St → Prop}
theorem WC.skip (h : Q .normal s) : WC P C N .skip s Q := fun K β _ _ hs => wpIn_skip ⟨K, β, s, .normal, Ext.refl _ _ _ _, hs, trivial, h⟩
theorem WC.exit {id : Nat} (h : Q (.exit id) s) : WC P C N (.exit id) s Q := fun K β _ _ hs => wpIn_exit ⟨K, β, s, .exit id, Ext.refl _ _ _ _, hs, rfl, h⟩
theorem WC.ret (h : Q .ret s) : WC P C N .ret s Q := fun K β _ _ hs => wpIn_ret ⟨K, β, s, .ret, Ext.refl _ _ _ _, hs, trivial, h⟩
theorem AftX.normal {K : Mem} {β : Nat → Nat → BT} {H : Heap} {a : Act} {w : World} (h : AftX C N K β H Q .normal a w) : ∃ K' β' s', Ext C K β H K' β' s'.H ∧ SR C N K' β' s' a w ∧ Q .normal s' := by
  obtain ⟨K', β', s', x, h1, h2, h3, h4⟩ := h
  cases x <;> first | exact ⟨K', β', s', h1, h2, h4⟩ | exact h3.elim
theorem AftX.other {K : Mem} {β : Nat → Nat → BT} {H : Heap} {F : St → Prop} {e : Exit} {a : Act} {w : World} (h : AftX C N K β H (thenQ F Q) e a w) (hne : e ≠ .normal) : AftX C N K β H Q e a w := by
  obtain ⟨K', β', s', x, h1, h2, h3, h4⟩ := h
  exact ⟨K', β', s', x, h1, h2, h3, h3.thenQ hne h4⟩
theorem WC.seq {x y : Code} (h : ∀ F : St → Prop, (∀ s', WC P C N y s' Q → F s') → WC P C N x s (thenQ F Q)) : WC P C N (.seq x y) s Q := by
  intro K β a w hs
  refine wpIn_seq (wpIn_mono (h _ (fun _ h => h) K β a w hs) fun e a' w' hA => ?_)
  cases e <;> first
    | exact hA.other (by intro h; cases h)
    | (obtain ⟨K', β', s', hK, hs', hy⟩ := hA.normal
       exact wpIn_mono (hy K' β' a' w' hs') fun e _ _ hA => hA.mono hK fun _ _ h => h)
theorem WC.block {id : Nat} {c : Code} (h : WC P C N c s (blkQ id Q)) : WC P C N (.block id c) s Q := by
  intro K β a w hs
  refine wpIn_block (wpIn_mono (h K β a w hs) fun e a' w' hA => ?_)
  obtain ⟨K', β', s', x, h1, h2, h3, h4⟩ := hA
  cases e with
  | exit id' =>
    cases x with
    | exit id'' =>
      have e : id' = id'' := h3
      subst e
      show if id' = id then _ else _
      by_cases he : id' = id
      · rw [if_pos he]; exact ⟨K', β', s', .normal, h1, h2, trivial, by simpa [blkQ, he] using h4⟩
      · rw [if_neg he]; exact ⟨K', β', s', .exit id', h1, h2, rfl, by simpa [blkQ, he] using h4⟩
    | _ => exact h3.elim
  | _ => cases x <;> first | exact ⟨K', β', s', _, h1, h2, h3, h4⟩ | exact h3.elim
theorem WC.cond {c : Operand} {x y : Code} (b : Bool) (hc : ev s.env c = .v (.bool b)) (ht : b = true → WC P C N x s Q) (hf : b = false → WC P C N y s Q) : WC P C N (.cond c x y) s Q := by
  intro K β a w hs
  have hv := hs.ev c
  rw [hc] at hv
  have e : a.eval c = .bool b := hv.v_inv
  exact wpIn_cond_split e (fun h => ht h K β a w hs) (fun h => hf h K β a w hs)
theorem WC.region {id : Nat} {l : List Oper} (h : RG P C N l.toArray l s Q) : WC P C N (.region id l.toArray false) s Q :=
  fun K β a w hs => wpIn_region_lit (h K β a w _ hs fun _ _ _ hA => hA)

/-- A state whose slots among W hold nothing that is told, and whose blocks from n on are forgotten. -/
def forget (W : List Nat) (e : Nat → D) : Nat → D := fun j => bif W.elem j then .any else e j
def updL (e : Nat → D) : List (Nat × D) → (Nat → D)
  | [] => e
  | (k, d) :: l => upd (updL e l) k d
theorem wsTake {K : Mem} {β : Nat → Nat → BT} {H : Heap} {w : World} (h : WS C K β H w) (n : Nat) (hok : ∀ (id : Nat) b, (H.take n)[id]? = some (some b) → ∀ c ∈ b.cs, OkD (H.take n) c) (hle : HLe C.hb (H.take n)) : WS C K β (H.take n) w := by
  have hs : ∀ (id : Nat) b, (H.take n)[id]? = some (some b) → H[id]? = some (some b) := by
    intro id b hb
    rw [List.getElem?_take] at hb
    split at hb
    · exact hb
    · cases hb
  exact ⟨h.holds, fun id b hb => h.blk id b (hs id b hb), hok, fun i j b b' hb hb' => h.inj i j b b' (hs i b hb) (hs j b' hb'),
    fun id b hb => h.apart id b (hs id b hb), fun id b hb => h.base id b (hs id b hb), h.size, h.below, h.agr, hle, h.kle⟩
/-- These slots hold these data. -/
def Live (env : Nat → D) (H : Heap) : List (Nat × D) → Prop
  | [] => True
  | (k, d) :: l => (env k = d ∧ OkD H d) ∧ Live env H l
theorem Live.at {env : Nat → D} {H : Heap} : ∀ {A : List (Nat × D)}, Live env H A → ∀ p ∈ A, env p.1 = p.2 ∧ OkD H p.2
  | [], _, p, hp => by cases hp
  | (k, d) :: l, h, p, hp => by
    rcases List.mem_cons.1 hp with rfl | hp
    · exact h.1
    · exact h.2.at p hp
/-- All that the blocks hold names blocks that are there. -/
def OkH (H : Heap) : List (Option Blk) → Prop
  | [] => True
  | none :: l => OkH H l
  | some b :: l => (∀ c ∈ b.cs, OkD H c) ∧ OkH H l
theorem OkH.at {H : Heap} : ∀ {l : List (Option Blk)}, OkH H l → ∀ (id : Nat) b, l[id]? = some (some b) → ∀ c ∈ b.cs, OkD H c
  | [], _, id, b, hb => by cases hb
  | none :: l, h, 0, b, hb => by cases hb
  | none :: l, h, id + 1, b, hb => OkH.at (l := l) h id b (by simpa using hb)
  | some x :: l, h, 0, b, hb => by simp at hb; subst hb; exact h.1
  | some x :: l, h, id + 1, b, hb => OkH.at (l := l) h.2 id b (by simpa using hb)
/-- s is as_ at a head: the slots of A hold these, those outside W what e says, the first blocks H0. 'H1': the blocks at the head's first coming. -/
structure Head (H1 : Heap) (e : Nat → D) (W : List Nat) (A : List (Nat × D)) (H0 : Heap) (s : St) : Prop where
  live : Live s.env H0 A
  rest : ∀ j, W.elem j = false → s.env j = e j
  heap : s.H.take H1.length = H0
  le : HLe H1 H0
  okH : OkH H0 H0
theorem updL_at (e : Nat → D) : ∀ (A : List (Nat × D)) (j : Nat), (∃ p ∈ A, p.1 = j ∧ updL e A j = p.2) ∨ ((∀ p ∈ A, p.1 ≠ j) ∧ updL e A j = e j)
  | [], j => .inr ⟨by simp, rfl⟩
  | (k, d) :: l, j => by
    by_cases h : j = k
    · subst h; exact .inl ⟨(j, d), by simp, rfl, upd_at _ _ _⟩
    · rcases updL_at e l j with ⟨p, hp, h1, h2⟩ | ⟨h1, h2⟩
      · exact .inl ⟨p, by simp [hp], h1, by show upd _ k d j = _; rw [upd_ne _ _ h]; exact h2⟩
      · refine .inr ⟨?_, by show upd _ k d j = _; rw [upd_ne _ _ h]; exact h2⟩
        intro p hp
        rcases List.mem_cons.1 hp with rfl | hp
        · exact Ne.symm h
        · exact h1 p hp
theorem SR.head {K : Mem} {β : Nat → Nat → BT} {a : Act} {w : World} (h : SR C N K β s a w) {H1 : Heap} {e : Nat → D} (hb : HLe C.hb H1) (he : ∀ t, OkD H1 (e t)) {W : List Nat} {A : List (Nat × D)} {H0 : Heap} (hf : Head H1 e W A H0 s) : SR C N K β ⟨updL (forget W e) A, H0⟩ a w := by
  have hh := hf.heap
  refine ⟨hh ▸ wsTake h.ws H1.length (by rw [hh]; exact hf.okH.at) (by rw [hh]; exact hb.trans hf.le), h.size, h.defers, fun t => ?_, fun t => ?_⟩
  all_goals
    simp only
    rcases updL_at (forget W e) A t with ⟨p, hp, rfl, h2⟩ | ⟨_, h2⟩
  · rw [h2, ← (hf.live.at p hp).1]; exact h.rd _
  · rw [h2]; unfold forget
    cases hw : W.elem t with
    | true => exact .any _ _
    | false => show DR K β true _ (e t); rw [← hf.rest t hw]; exact h.rd t
  · rw [h2]; exact (hf.live.at p hp).2
  · rw [h2]; unfold forget
    cases hw : W.elem t with
    | true => exact .any
    | false => exact (he t).mono hf.le
theorem Head.ext {K : Mem} {β : Nat → Nat → BT} {C : Ctx} {H1 : Heap} {e : Nat → D} {W : List Nat} {A : List (Nat × D)} {H0 : Heap} {s : St} {K' : Mem} {β' : Nat → Nat → BT} (h : Ext C K β H1 K' β' s.H) (hf : Head H1 e W A H0 s) : Ext C K β H1 K' β' H0 := ⟨h.kx, h.ag, hf.le⟩
/-- A loop: a ghost g tells what its slots hold at each round's head (A g), what the blocks hold (Hs g), and a number that falls. -/
theorem WC.loop {c : Code} {G : Type} (W : List Nat) (A : G → List (Nat × D)) (Hs : G → Heap) (I : G → Prop) (m : G → Nat) (g0 : G) (hI : I g0) (h0 : Head s.H s.env W (A g0) (Hs g0) s)
    (round : ∀ g, I g → WC P C N c ⟨updL (forget W s.env) (A g), Hs g⟩ (thenQ (fun s' => ∃ g', I g' ∧ m g' < m g ∧ Head s.H s.env W (A g') (Hs g') s') Q)) : WC P C N (.loop c) s Q := by
  intro K β a w hs
  refine wpIn_loop_ghost (fun k a w => ∃ g K' β', m g = k ∧ Ext C K β s.H K' β' (Hs g) ∧ I g ∧ SR C N K' β' ⟨updL (forget W s.env) (A g), Hs g⟩ a w) (m g0) ⟨g0, K, β, rfl, Head.ext (Ext.refl _ _ _ _) h0, hI, hs.head hs.ws.hle hs.ok h0⟩ ?_
  rintro k a w ⟨g, K', β', rfl, hK, hg, hr⟩
  refine wpIn_mono (round g hg K' β' a w hr) fun e' a' w' hA => ?_
  cases e' with
  | normal =>
    obtain ⟨K'', β'', s', hK', hs', g', hI', hlt, hf⟩ := hA.normal
    exact ⟨m g', hlt, g', K'', β'', rfl, Head.ext (hK.trans hK') hf, hI', hs'.head hs.ws.hle hs.ok hf⟩
  | _ => exact (hA.other (by intro h; cases h)).mono hK fun _ _ h => h
theorem same_refl (W : List Nat) (e : Nat → D) : ∀ j, W.elem j = false → e j = e j := fun _ _ => rfl
theorem same_upd {W : List Nat} {e env : Nat → D} {k : Nat} {d : D} (hk : W.elem k = true) (h : ∀ j, W.elem j = false → env j = e j) : ∀ j, W.elem j = false → upd env k d j = e j := fun j hj => by
  rw [upd_ne _ _ (fun he => by rw [he, hk] at hj; cases hj)]; exact h j hj
theorem same_updO {W : List Nat} {e env : Nat → D} {k : Nat} {d : D} (hk : W.elem k = true) (h : ∀ j, W.elem j = false → env j = e j) : ∀ j, W.elem j = false → updO env (some k) d j = e j := same_upd hk h
theorem same_updN {W : List Nat} {e env : Nat → D} {d : D} (h : ∀ j, W.elem j = false → env j = e j) : ∀ j, W.elem j = false → updO env none d j = e j := h
theorem same_forget {W W' : List Nat} {e env : Nat → D} (hw : (W'.all fun k => W.elem k) = true) (h : ∀ j, W.elem j = false → env j = e j) : ∀ j, W.elem j = false → forget W' env j = e j := fun j hj => by
  unfold forget
  cases hb : W'.elem j with
  | true =>
    have := List.all_eq_true.1 hw j (List.elem_iff.1 hb)
    rw [hj] at this; cases this
  | false => exact h j hj
theorem same_updL {W : List Nat} {e env : Nat → D} : ∀ {A : List (Nat × D)}, (A.all fun p => W.elem p.1) = true → (∀ j, W.elem j = false → env j = e j) → ∀ j, W.elem j = false → updL env A j = e j
  | [], _, h => h
  | (k, d) :: l, hk, h => by
    simp only [List.all_cons, Bool.and_eq_true] at hk
    exact same_upd hk.1 (same_updL hk.2 h)
end

/-- What a block of the call's own reads as_, when nobody changes it any more. -/
inductive Frz (H : Heap) : D → D → Prop
  | any : Frz H .any .any
  | v (x) : Frz H (.v x) (.v x)
  | rd (n cs) : Frz H (.rd n cs) (.rd n cs)
  | adr (cs) : Frz H (.adr cs) (.adr cs)
  | agg (cs ds : List D) (hl : cs.length = ds.length) (h : ∀ (j : Nat) c d, cs[j]? = some c → ds[j]? = some d → Frz H c d) : Frz H (.agg cs) (.agg ds)
  | tup (cs ds : List D) (hl : cs.length = ds.length) (h : ∀ (j : Nat) c d, cs[j]? = some c → ds[j]? = some d → Frz H c d) : Frz H (.tup cs) (.tup ds)
  | fn (f : Fn) (cs ds : List D) (hl : cs.length = ds.length) (h : ∀ (j : Nat) c d, cs[j]? = some c → ds[j]? = some d → Frz H c d) : Frz H (.fn f cs) (.fn f ds)
  | own (id off n sz : Nat) (b : Blk) (ds : List D) (hb : H[id]? = some (some b)) (hl : off + ds.length ≤ b.cs.length) (h : ∀ (j : Nat) c d, b.cs[off + j]? = some c → ds[j]? = some d → Frz H c d) : Frz H (.own id b.ver off n sz) (.rd n ds)
  | ptr (id off : Nat) (b : Blk) (ds : List D) (hb : H[id]? = some (some b)) (hl : off + ds.length ≤ b.cs.length) (h : ∀ (j : Nat) c d, b.cs[off + j]? = some c → ds[j]? = some d → Frz H c d) : Frz H (.ptr id b.ver off) (.adr ds)
  | iface (t : TypeId) (c d : D) (h : Frz H c d) : Frz H (.iface t c) (.iface t d)
  | mp (ks cs) : Frz H (.mp ks cs) (.mp ks cs)
  | omp (id : Nat) (b : Blk) (ks : List Value) (ds : List D) (hb : H[id]? = some (some b)) (hl : b.cs.length = ds.length) (hkl : ks.length = ds.length)
      (hk : ∀ (j : Nat) c, b.cs[j]? = some c → ∃ k dv, c = .tup [.v k, dv] ∧ ks[j]? = some k) (h : ∀ (j : Nat) k c d, b.cs[j]? = some (.tup [.v k, c]) → ds[j]? = some d → Frz H c d) : Frz H (.omp id b.ver) (.mp ks ds)
  | drop (d : D) : Frz H d .any
  | nilv : Frz H (.v (.slice none 0 0)) (.rd 0 [])

/-- All that the call owns, with what stays. -/
noncomputable def Mem.all (K : Mem) (β : Nat → Nat → BT) (H : Heap) (w : World) : Mem := fun b =>
  open Classical in if (∃ (id : Nat) (x : Blk), H[id]? = some (some x) ∧ (β id x.ver).real = true ∧ (β id x.ver).blk = b) then w.heap[b]? else K b
section
variable {C : Ctx} {K : Mem} {β : Nat → Nat → BT} {H : Heap} {w : World}
theorem WS.all_old (h : WS C K β H w) {b : Nat} {c : Obj} (hb : K b = some c) : K.all β H w b = some c := by
  unfold Mem.all
  rw [if_neg ?_]
  · exact hb
  · rintro ⟨id, x, hx, hr, rfl⟩
    rw [h.apart id x hx hr] at hb; cases hb
theorem WS.all_new (h : WS C K β H w) {id : Nat} {x : Blk} (hx : H[id]? = some (some x)) (hr : (β id x.ver).st = .cells) : ∃ us rest : List Value, K.all β H w (β id x.ver).blk = some (.cells (us ++ rest).toArray x.e (0, 0)) ∧ us.length = x.cs.length ∧ ∀ (j : Nat) u d, us[j]? = some u → x.cs[j]? = some d → DR K β true u d := by
  obtain ⟨us, rest, e, hl, _, _, hd⟩ := h.real hx hr
  refine ⟨us, rest, ?_, hl, hd⟩
  unfold Mem.all
  rw [if_pos ⟨id, x, hx, BT.real_of hr, rfl⟩, e]
theorem WS.all_newm (h : WS C K β H w) {id : Nat} {x : Blk} (hx : H[id]? = some (some x)) (hr : (β id x.ver).st = .map) : ∃ es ck, K.all β H w (β id x.ver).blk = some (.map es ck) ∧ EntR K β es ck x.cs := by
  obtain ⟨es, ck, e, hE⟩ := h.mapd hx hr
  refine ⟨es, ck, ?_, hE⟩
  unfold Mem.all
  rw [if_pos ⟨id, x, hx, BT.real_ofm hr, rfl⟩, e]
theorem WS.all_kx (h : WS C K β H w) : KX C K (K.all β H w) := by
  refine ⟨fun b c hb => h.all_old hb, fun b c hb => ?_⟩
  unfold Mem.all at hb
  split at hb
  · rename_i hx; obtain ⟨id, x, hx, hr, rfl⟩ := hx; exact .inr (h.base id x hx hr)
  · exact .inl hb
theorem WS.all_holds (h : WS C K β H w) : ∀ b c, K.all β H w b = some c → w.heap[b]? = some c := by
  intro b c hb
  unfold Mem.all at hb
  split at hb
  · exact hb
  · exact h.holds b c hb
theorem WS.frz (h : WS C K β H w) {d d' : D} (hf : Frz H d d') : ∀ v, DR K β true v d → DR (K.all β H w) β false v d' := by
  have hle : Mem.le K (K.all β H w) := h.all_kx.le
  induction hf with
  | any => intro v _; exact .any _ _
  | drop => intro v _; exact .any _ _
  | nilv => intro v hv; rw [hv.v_inv]; exact .rd _ none 0 0 [] [] (Nat.le_refl _) rfl (by simp) (by simp)
  | v x => intro v hv; cases hv; exact .v _ _
  | rd n cs =>
    intro v hv
    cases hv with
    | rd _ A _ c us _ hn hl hc hd => exact .rd _ A n c us cs hn hl (fun j u hu => let ⟨ad, e, hk⟩ := hc j u hu; ⟨ad, e, hle.cell hk⟩) fun j u d hu hd' => (hd j u d hu hd').mono (H := []) hle (by intro h; cases h) (Agr.refl _ _)
  | adr cs =>
    intro v hv
    cases hv with
    | adr _ ad us _ hl hc hd => exact .adr _ ad us cs hl (fun j u hu => hle.cell (hc j u hu)) fun j u d hu hd' => (hd j u d hu hd').mono (H := []) hle (by intro h; cases h) (Agr.refl _ _)
  | iface t c d _ ih =>
    intro v hv
    obtain ⟨u, rfl, hu⟩ := hv.iface_inv
    exact .iface _ t u d (ih u hu)
  | mp ks cs =>
    intro v hv
    cases hv with
    | mp _ r es ck _ _ hk hl hc hd => exact .mp _ r es ck ks cs (hle _ _ hk) hl hc fun j u d hu hd' => (hd j u d hu hd').mono (H := []) hle (by intro h; cases h) (Agr.refl _ _)
  | omp id b ks ds hb hl hkl hks _ ih =>
    intro v hv
    obtain ⟨rfl, hr⟩ := hv.omp_inv
    obtain ⟨es, ck, hk, hE⟩ := h.all_newm hb hr
    have hes := hE.len
    refine .mp _ _ es ck ks ds hk ?_ (by omega) fun j u d hu hd' => ?_
    · apply List.ext_getElem?
      intro j
      rw [List.getElem?_map]
      by_cases hj : j < es.size
      · have hu : es[j]? = some es[j] := Array.getElem?_eq_getElem hj
        have hc : b.cs[j]? = some (b.cs[j]'(by omega)) := List.getElem?_eq_getElem (by omega)
        obtain ⟨k, dv, e1, e2⟩ := hks j _ hc
        obtain ⟨dv', e3, _⟩ := hE.rd j _ _ hu hc
        rw [e1] at e3
        injection e3 with e4
        injection e4 with e5 _
        injection e5 with e6
        rw [Array.getElem?_toList, hu, e2, e6]; rfl
      · rw [Array.getElem?_toList, Array.getElem?_eq_none (by omega), List.getElem?_eq_none (by omega)]; rfl
    · have hj : j < es.size := (Array.getElem?_eq_some_iff.1 hu).1
      have hc : b.cs[j]? = some (b.cs[j]'(by omega)) := List.getElem?_eq_getElem (by omega)
      obtain ⟨dv', e3, hdv⟩ := hE.rd j _ _ hu hc
      exact ih j u.key dv' d (by rw [hc, e3]) hd' _ hdv
  | agg cs ds hl _ ih =>
    intro v hv
    cases hv with
    | agg _ us _ hl' hd =>
      refine .agg _ us ds (hl'.trans hl) fun j u d hu hd' => ?_
      have hj : j < cs.length := by rw [hl]; exact (List.getElem?_eq_some_iff.1 hd').1
      exact ih j cs[j] d (List.getElem?_eq_getElem hj) hd' u (hd j u _ hu (List.getElem?_eq_getElem hj))
  | tup cs ds hl _ ih =>
    intro v hv
    cases hv with
    | tup _ us _ hl' hd =>
      refine .tup _ us ds (hl'.trans hl) fun j u d hu hd' => ?_
      have hj : j < cs.length := by rw [hl]; exact (List.getElem?_eq_some_iff.1 hd').1
      exact ih j cs[j] d (List.getElem?_eq_getElem hj) hd' u (hd j u _ hu (List.getElem?_eq_getElem hj))
  | fn f cs ds hl _ ih =>
    intro v hv
    cases hv with
    | fn _ _ us _ hl' hd =>
      refine .fn _ f us ds (hl'.trans hl) fun j u d hu hd' => ?_
      have hj : j < cs.length := by rw [hl]; exact (List.getElem?_eq_some_iff.1 hd').1
      exact ih j cs[j] d (List.getElem?_eq_getElem hj) hd' u (hd j u _ hu (List.getElem?_eq_getElem hj))
  | own id off n sz b ds hb hl _ ih =>
    intro v hv
    rcases hv.own_inv with ⟨c, rfl, hn, _, _, hr⟩ | ⟨rfl, rfl, rfl, hr⟩
    · obtain ⟨us, rest, hk, hul, hd⟩ := h.all_new hb hr
      refine .rd _ _ n c ((us.drop off).take ds.length) ds hn (by simp; omega) (fun j u hu => ⟨_, rfl, ?_⟩) fun j u d hu hd' => ?_
      · rw [List.getElem?_take] at hu
        split at hu
        · rw [List.getElem?_drop] at hu
          have e : (⟨(β id b.ver).blk, off, none⟩ : Addr).add j = ⟨(β id b.ver).blk, off + j, none⟩ := by unfold Addr.add; split <;> simp_all
          rw [e]; simp only [Mem.cell, hk]
          simp only [Option.isSome_none, Bool.false_eq_true, if_false, List.getElem?_toArray]
          rw [List.getElem?_append_left (List.getElem?_eq_some_iff.1 hu).1]; exact hu
        · cases hu
      · rw [List.getElem?_take] at hu
        split at hu
        · rw [List.getElem?_drop] at hu
          have hj : off + j < b.cs.length := by have := (List.getElem?_eq_some_iff.1 hu).1; omega
          exact ih j b.cs[off + j] d (List.getElem?_eq_getElem hj) hd' u (hd _ u _ hu (List.getElem?_eq_getElem hj))
        · cases hu
    · have h0 := h.nil hb hr
      rw [h0] at hl
      have : ds = [] := List.eq_nil_of_length_eq_zero (by simpa using hl)
      subst this
      exact .rd _ none 0 0 [] [] (Nat.le_refl _) rfl (by simp) (by simp)
  | ptr id off b ds hb hl _ ih =>
    intro v hv
    obtain ⟨rfl, hr⟩ := hv.ptr_inv
    obtain ⟨us, rest, hk, hul, hd⟩ := h.all_new hb hr
    refine .adr _ _ ((us.drop off).take ds.length) ds (by simp; omega) (fun j u hu => ?_) fun j u d hu hd' => ?_
    · rw [List.getElem?_take] at hu
      split at hu
      · rw [List.getElem?_drop] at hu
        have e : (⟨(β id b.ver).blk, off, none⟩ : Addr).add j = ⟨(β id b.ver).blk, off + j, none⟩ := by unfold Addr.add; split <;> simp_all
        rw [e]; simp only [Mem.cell, hk]
        simp only [Option.isSome_none, Bool.false_eq_true, if_false, List.getElem?_toArray]
        rw [List.getElem?_append_left (List.getElem?_eq_some_iff.1 hu).1]; exact hu
      · cases hu
    · rw [List.getElem?_take] at hu
      split at hu
      · rw [List.getElem?_drop] at hu
        have hj : off + j < b.cs.length := by have := (List.getElem?_eq_some_iff.1 hu).1; omega
        exact ih j b.cs[off + j] d (List.getElem?_eq_getElem hj) hd' u (hd _ u _ hu (List.getElem?_eq_getElem hj))
      · cases hu
end

/-- A table of blocks where there are none. -/
def β0 : Nat → Nat → BT := fun _ _ => ⟨0, 0, .none⟩
/-- A function of data: called with what reads so, it returns what Q says; what was there is as_ it was. -/
def Fun (P : Program) (f : FuncId) (ds : List D) (Q : D → Prop) : Prop :=
  ∀ (K : Mem) (w : World) (vs : List Value), vs.length = ds.length → (∀ (j : Nat) v d, vs[j]? = some v → ds[j]? = some d → DR K β0 false v d) → (∀ b c, K b = some c → w.heap[b]? = some c) →
    Calls P f vs.toArray w fun e w' => ∃ v d K', e = .returned v ∧ Q d ∧ KX (bare w) K K' ∧ (∀ b c, K' b = some c → w'.heap[b]? = some c) ∧ DR K' β0 false v d ∧ Below w.heap.size w w'
/-- Where the blocks lie that a call is given. -/
def gives (β : Nat → Nat → BT) (H : Heap) : Nat → Prop := fun k => ∃ (id : Nat) (b : Blk), H[id]? = some (some b) ∧ (β id b.ver).real = true ∧ (β id b.ver).blk = k
def given (K : Mem) (β : Nat → Nat → BT) (H : Heap) (w : World) : Ctx := ⟨w.heap.size, w, gives β H, none, H, β, K⟩
/-- A call that is given blocks of the caller's own: it may change them. -/
def FunM (P : Program) (f : FuncId) (ds : List D) (H : Heap) (Q : DOut → Heap → Prop) : Prop :=
  ∀ (K : Mem) (β : Nat → Nat → BT) (w : World) (vs : List Value), WS (given K β H w) K β H w → vs.length = ds.length → (∀ (j : Nat) v d, vs[j]? = some v → ds[j]? = some d → DR K β true v d) → (∀ d ∈ ds, OkD H d) →
    Calls P f vs.toArray w fun e w' => ∃ v d K' β' H', Ext (given K β H w) K β H K' β' H' ∧ WS (given K β H w) K' β' H' w' ∧ DR K' β' true v d ∧ OkD H' d ∧ ((e = .returned v ∧ Q (.ret d) H') ∨ (e = .panicked [{ v, recovered := false }] ∧ Q (.pan d) H'))
theorem Bel.start (C : Ctx) : Bel C C.W := ⟨rfl, rfl, rfl, Nat.le_refl _, fun _ _ _ => rfl⟩
theorem WS.give {C : Ctx} {K : Mem} {β : Nat → Nat → BT} {H : Heap} {w : World} (h : WS C K β H w) : WS (given K β H w) K β H w :=
  ⟨h.holds, h.blk, h.ok, h.inj, h.apart, fun id b hb hr => .inr ⟨id, b, hb, hr, rfl⟩, Nat.le_refl _, Bel.start _, Agr.refl _ _, HLe.refl _, Mem.le.refl _⟩
theorem WS.owns_of {C : Ctx} {K : Mem} {β : Nat → Nat → BT} {H : Heap} {w : World} (h : WS C K β H w) (k : Nat) (hk : (given K β H w).owns k) : C.owns k := by
  rcases hk with h1 | ⟨id, b, hb, hr, rfl⟩
  · exact .inl (Nat.le_trans h.size h1)
  · exact h.base id b hb hr
theorem WS.back {C : Ctx} {K K' : Mem} {β β' : Nat → Nat → BT} {H H' : Heap} {w w' : World} (h : WS C K β H w) (h' : WS (given K β H w) K' β' H' w') : WS C K' β' H' w' :=
  ⟨h'.holds, h'.blk, h'.ok, h'.inj, h'.apart, fun id b hb hr => h.owns_of _ (h'.base id b hb hr), Nat.le_trans h.size h'.size, ⟨h'.below.os.trans h.below.os, h'.below.tape.trans h.below.tape, h'.below.output.trans h.below.output, Nat.le_trans h.below.size h'.below.size, fun k hk hg =>
    (h'.below.block k (Nat.lt_of_lt_of_le hk h.size) fun ⟨id, b, hb, hr, e⟩ => by
      rcases h.base id b hb hr with h1 | h1
      · rw [e] at h1; omega
      · rw [e] at h1; exact hg h1).trans (h.below.block k hk hg)⟩, h.agr.up h.hle h'.agr, h.hle.trans h'.hle, h.kle.trans h'.kle⟩
theorem Ext.up {C : Ctx} {K K' : Mem} {β β' : Nat → Nat → BT} {H H' : Heap} {w : World} (h : WS C K β H w) (he : Ext (given K β H w) K β H K' β' H') : Ext C K β H K' β' H' := ⟨he.kx.mono h.owns_of, he.ag, he.le⟩
/-- The slots at a function's beginning. -/
def env0 (ds : List D) : Nat → D := fun k => (ds[k]?).getD (.v undef)
/-- What a function's end hands back. -/
def Ends (P : Program) (fn : Func) (Q : D → Prop) (s : St) : Prop :=
  ∀ (C : Ctx) (N : Nat) K β a w, SR C N K β s a w → ∃ v d d', (results fn a.tmps).run P w = .ok v w ∧ DR K β true v d ∧ Frz s.H d d' ∧ Q d'
def endQ (P : Program) (fn : Func) (Q : D → Prop) : DX → St → Prop
  | .normal, s | .ret, s => Ends P fn Q s
  | _, _ => False
/-- The same of a call that has all: n blocks are left. -/
def EndsM (P : Program) (fn : Func) (Q : D → Prop) (H : Heap) (s : St) : Prop :=
  ∀ (C : Ctx) (N : Nat) K β a w, SR C N K β s a w → ∃ v d, (results fn a.tmps).run P w = .ok v w ∧ DR K β true v d ∧ OkD H d ∧ Q d
/-- So many blocks are kept: they lean on no other ones. -/
structure Kept (H0 : Heap) (n : Nat) (s : St) (H' : Heap) : Prop where
  eq : s.H.take n = H'
  le : H0.length ≤ n
  ok : OkH H' H'
def endM (P : Program) (fn : Func) (H0 : Heap) (Q : DOut → Heap → Prop) : DX → St → Prop
  | .normal, s | .ret, s => ∃ n H', Kept H0 n s H' ∧ EndsM P fn (fun d => Q (.ret d) H') H' s
  | .panic d, s => ∃ n H', Kept H0 n s H' ∧ OkD H' d ∧ Q (.pan d) H'
  | _, _ => False
theorem HLe.take {H H' : Heap} (h : HLe H H') {n : Nat} (hn : H.length ≤ n) : HLe H (H'.take n) := fun i v hv => by
  have h1 := hv.lt
  have h2 := h i v hv
  unfold okV at h2 ⊢
  rw [List.getElem?_take, if_pos (by omega)]
  exact h2
theorem enters {fn : Func} {ds : List D} {C : Ctx} {K : Mem} {β : Nat → Nat → BT} {H : Heap} {w : World} {vs : List Value} (hn : ds.length ≤ fn.ntmps) (hw : WS C K β H w) (hl : vs.length = ds.length)
    (hv : ∀ (j : Nat) v d, vs[j]? = some v → ds[j]? = some d → DR K β true v d) (ho : ∀ d ∈ ds, OkD H d) : SR C fn.ntmps K β ⟨env0 ds, H⟩ { tmps := vs.toArray ++ Array.replicate (fn.ntmps - vs.toArray.size) undef, defers := [] } w := by
  refine ⟨hw, by simp; omega, trivial, fun t => ?_, fun t => ?_⟩
  · show DR K β true ((vs.toArray ++ Array.replicate (fn.ntmps - vs.toArray.size) undef).getD t undef) (env0 ds t)
    unfold env0
    by_cases ht : t < ds.length
    · rw [List.getElem?_eq_getElem ht]
      have hvt : vs[t]? = some (vs[t]'(by omega)) := List.getElem?_eq_getElem (by omega)
      have e : (vs.toArray ++ Array.replicate (fn.ntmps - vs.toArray.size) undef).getD t undef = vs[t]'(by omega) := by
        rw [Array.getD_eq_getD_getElem?, Array.getElem?_append_left (by simp; omega)]
        simp [hvt]
      rw [e]
      exact hv t _ _ hvt (List.getElem?_eq_getElem ht)
    · rw [List.getElem?_eq_none (by omega)]
      have e : (vs.toArray ++ Array.replicate (fn.ntmps - vs.toArray.size) undef).getD t undef = undef := by
        rw [Array.getD_eq_getD_getElem?, Array.getElem?_append_right (by simp; omega)]
        by_cases h2 : t - vs.toArray.size < fn.ntmps - vs.toArray.size
        · rw [Array.getElem?_replicate, if_pos h2]; rfl
        · rw [Array.getElem?_replicate, if_neg h2]; rfl
      rw [e]; exact .v _ _
  · show OkD H (env0 ds t)
    unfold env0
    by_cases ht : t < ds.length
    · rw [List.getElem?_eq_getElem ht]; exact ho _ (List.getElem_mem ht)
    · rw [List.getElem?_eq_none (by omega)]; exact .v _
theorem WS.start (K : Mem) (w : World) (hK : ∀ b c, K b = some c → w.heap[b]? = some c) : WS (bare w) K β0 [] w := ⟨hK, by simp, by simp, by simp, by simp, by simp, Nat.le_refl _, Bel.start _, Agr.refl _ _, HLe.refl _, fun _ _ h => by cases h⟩
theorem Bel.bare {w w' : World} (h : Bel (bare w) w') : Below w.heap.size w w' := ⟨h.os, h.tape, h.output, h.size, fun k hk => h.block k hk fun h => h⟩
/-- Marks let go, one by one: what a call's end may lean on. -/
theorem SR.unmark {C : Ctx} {N : Nat} {β : Nat → Nat → BT} {s : St} {P : Program} {w0 : World} {H : Heap} {β1 : Nat → Nat → BT} {K : Mem} (hKB : ∀ b c, K b = some c → b < C.B) (hkb : ∀ b c, C.kb b = some c → b < C.B) : ∀ (ds : List Deferred) (K' : Mem) (tmps : Array Value) (w : World), Ext C K β1 H K' β s.H → SR C N K' β s ⟨tmps, ds⟩ w →
    ∃ K'' w'', Ext C K β1 H K'' β s.H ∧ SR C N K'' β s ⟨tmps, []⟩ w'' ∧ (∀ m v d, DR K' β m v d → DR K'' β m v d) ∧ ∀ (fn : Func) (R : Ending → World → Prop) (u : FrameMode), u ≠ .run → LeavesInM (FW none) 0 P fn tmps R [] u w'' → LeavesInM (FW none) 0 P fn tmps R ds u w
  | [], K', tmps, w, hx, hs => ⟨K', w, hx, hs, fun _ _ _ h => h, fun _ _ _ _ h => h⟩
  | d :: ds, K', tmps, w, hx, hs => by
    obtain ⟨⟨r, h1, h2, h3, h4⟩, h5⟩ := hs.defers
    have hd : ∀ m v d, DR K' β m v d → DR (K'.del r) β m v d := fun m v d h => h.drop h2 (inert_def _)
    have hs' : SR C N (K'.del r) β s ⟨tmps, ds⟩ (w.putObj r (.deferred none)) := ⟨hs.ws.drop h2 (inert_def _) h3 (by cases e : C.kb r with | none => rfl | some c => have := hkb r c e; omega) _, hs.size, h5.del h4, fun t => hd _ _ _ (hs.rd t), hs.ok⟩
    have hx' : Ext C K β1 H (K'.del r) β s.H := ⟨⟨fun b c hb => by
        unfold Mem.del
        rw [if_neg (fun e => by have := hKB b c hb; omega)]; exact hx.kx.le b c hb, fun b c hb => by
        unfold Mem.del at hb
        by_cases e : b = r
        · rw [if_pos e] at hb; cases hb
        · rw [if_neg e] at hb; exact hx.kx.new b c hb⟩, hx.ag, hx.le⟩
    obtain ⟨K'', w'', k1, k2, k3, k4⟩ := SR.unmark (P := P) (w0 := w0) hKB hkb ds (K'.del r) tmps _ hx' hs'
    exact ⟨K'', w'', k1, k2, fun m v d h => k3 m v d (hd m v d h), fun fn R u hu h => ⟨hu, .inl ⟨r, _, h1, run_takeDeferred (hs.ws.holds r _ h2), k4 fn R u hu h⟩⟩⟩
/-- A call from its body's walk: marks may lie among its deferred calls. -/
theorem calls_fin {P : Program} {f : FuncId} {fn : Func} {c : Code} {args : Array Value} {w : World} {R : Ending → World → Prop} {C : Ctx} {K : Mem} {β : Nat → Nat → BT} {H : Heap} {N : Nat} {Q : DX → St → Prop} (hf : P.funcs[f]? = some fn) (hb : fn.body = some c) (hrd : C.rd = none) (hKB : ∀ b c, K b = some c → b < C.B) (hkb : ∀ b c, C.kb b = some c → b < C.B)
    (h : c.wpIn (FW C.rd) 0 P (AftX C N K β H Q) { tmps := args ++ Array.replicate (fn.ntmps - args.size) undef, defers := [] } w)
    (hfin : ∀ e (a' : Act) w' K' β' s' x, Ext C K β H K' β' s'.H → SR C N K' β' s' a' w' → a'.defers = [] → XR K' β' s'.H e x → Q x s' → bodyPost P fn R e a' w') : Calls P f args w R := by
  have hc : CallsIn (FW none) 0 P f args w R := by
    refine callsIn_of_wp_marks hf hb trivial ?_
    rw [hrd] at h
    refine wpIn_mono h fun e a' w' hA => ?_
    obtain ⟨K', β', s', x, hX, hs', hx, hq⟩ := hA
    obtain ⟨tmps, ds⟩ := a'
    obtain ⟨K'', w'', k1, k2, k3, k4⟩ := SR.unmark (P := P) (w0 := w) hKB hkb ds K' tmps w' hX hs'
    have hx' : XR K'' β' s'.H e x := by
      cases e <;> cases x <;> first
        | exact hx
        | (obtain ⟨v, e1, e2, e3⟩ := hx; exact ⟨v, e1, k3 _ _ _ e2, e3⟩)
    have hp := hfin e ⟨tmps, []⟩ w'' K'' β' s' x k1 k2 rfl hx' hq
    cases e with
    | normal => exact k4 fn R .returning (by simp) hp.2
    | ret => exact k4 fn R .returning (by simp) hp.2
    | panic ch => exact k4 fn R (.panicking ch) (by simp) hp.2
    | exit id => exact hp
    | goto l => exact hp
    | outgrown => cases x <;> exact hx.elim
  exact callsIn_wide.1 hc
theorem WS.kB {C : Ctx} {K : Mem} {β : Nat → Nat → BT} {H : Heap} {w : World} (h : WS C K β H w) (hB : C.B = w.heap.size) : ∀ b c, K b = some c → b < C.B := fun b c hb => by rw [hB]; exact h.klt hb
theorem Fun.ofR {P : Program} {f : FuncId} {fn : Func} {c : Code} {ds : List D} {Q : D → Prop} (hf : P.funcs[f]? = some fn) (hb : fn.body = some c) (hn : ds.length ≤ fn.ntmps)
    (h : ∀ C, C.rd = none → WC P C fn.ntmps c ⟨env0 ds, []⟩ (endQ P fn Q)) : Fun P f ds Q := by
  intro K w vs hl hv hK
  have hok : ∀ d ∈ ds, OkD [] d := fun d hd => by
    obtain ⟨j, hj, rfl⟩ := List.getElem_of_mem hd
    have hvt : vs[j]? = some (vs[j]'(by omega)) := List.getElem?_eq_getElem (by omega)
    exact (hv j _ _ hvt (List.getElem?_eq_getElem hj)).okp rfl
  refine calls_fin hf hb rfl ((WS.start K w hK).kB rfl) (fun _ _ h => by cases h) (h (bare w) rfl K β0 _ w (enters hn (WS.start K w hK) hl (fun j v d h1 h2 => (hv j v d h1 h2).up rfl) hok)) fun e a' w' K' β' s' x hK' hs' hdf hx hq => ?_
  have fin : Ends P fn Q s' → a'.defers = [] ∧ ∃ v, (results fn a'.tmps).run P w' = .ok v w' ∧ ∃ v' d K', Ending.returned v = .returned v' ∧ Q d ∧ KX (bare w) K K' ∧ (∀ b c, K' b = some c → w'.heap[b]? = some c) ∧ DR K' β0 false v' d ∧ Below w.heap.size w w' := by
    intro hE
    obtain ⟨v, d, d', hr, hd, hz, hQ⟩ := hE _ _ K' β' a' w' hs'
    exact ⟨hdf, v, hr, v, d', _, rfl, hQ, hK'.kx.trans hs'.ws.all_kx, hs'.ws.all_holds, (hs'.ws.frz hz v hd).pure rfl, hs'.ws.below.bare⟩
  cases e <;> cases x <;> first
    | exact fin hq
    | exact hx.elim
    | exact hq.elim
theorem Fun.of {P : Program} {f : FuncId} {fn : Func} {c : Code} {ds : List D} {Q : D → Prop} (hf : P.funcs[f]? = some fn) (hb : fn.body = some c) (hn : ds.length ≤ fn.ntmps)
    (h : ∀ C, WC P C fn.ntmps c ⟨env0 ds, []⟩ (endQ P fn Q)) : Fun P f ds Q := Fun.ofR hf hb hn fun C _ => h C
theorem FunM.ofR {P : Program} {f : FuncId} {fn : Func} {c : Code} {ds : List D} {H : Heap} {Q : DOut → Heap → Prop} (hf : P.funcs[f]? = some fn) (hb : fn.body = some c) (hn : ds.length ≤ fn.ntmps)
    (h : ∀ C, C.rd = none → WC P C fn.ntmps c ⟨env0 ds, H⟩ (endM P fn H Q)) : FunM P f ds H Q := by
  intro K β w vs hw hl hv ho
  refine calls_fin hf hb rfl (hw.kB rfl) (hw.kB rfl) (h (given K β H w) rfl K β _ w (enters hn hw hl hv ho)) fun e a' w' K' β' s' x hX hs' hdf hx hq => ?_
  have kept : ∀ {n : Nat} {H' : Heap}, Kept H n s' H' → Ext (given K β H w) K β H K' β' H' ∧ WS (given K β H w) K' β' H' w' := fun {n H'} hk => by
    obtain ⟨he, hn', hok⟩ := hk
    exact ⟨⟨hX.kx, hX.ag, he ▸ hX.le.take hn'⟩, he ▸ wsTake hs'.ws n (by rw [he]; exact hok.at) (hs'.ws.hle.take hn')⟩
  have fin : (∃ n H', Kept H n s' H' ∧ EndsM P fn (fun d => Q (.ret d) H') H' s') → a'.defers = [] ∧ ∃ v, (results fn a'.tmps).run P w' = .ok v w' ∧ ∃ v' d K' β' H', Ext (given K β H w) K β H K' β' H' ∧ WS (given K β H w) K' β' H' w' ∧ DR K' β' true v' d ∧ OkD H' d ∧ ((Ending.returned v = .returned v' ∧ Q (.ret d) H') ∨ (Ending.returned v = .panicked [{ v := v', recovered := false }] ∧ Q (.pan d) H')) := by
    rintro ⟨n, H', hk, hE⟩
    obtain ⟨v, d, hr, hd, hz, hQ⟩ := hE _ _ K' β' a' w' hs'
    obtain ⟨k1, k2⟩ := kept hk
    exact ⟨hdf, v, hr, v, d, K', β', H', k1, k2, hd, hz, .inl ⟨rfl, hQ⟩⟩
  cases e <;> cases x <;> first
    | exact fin hq
    | exact hx.elim
    | exact hq.elim
    | (obtain ⟨n, H', hk, hz, hQ⟩ := hq
       obtain ⟨v, rfl, hd, _⟩ := hx
       obtain ⟨k1, k2⟩ := kept hk
       exact ⟨hdf, v, _, K', β', H', k1, k2, hd, hz, .inr ⟨rfl, hQ⟩⟩)
theorem FunM.of {P : Program} {f : FuncId} {fn : Func} {c : Code} {ds : List D} {H : Heap} {Q : DOut → Heap → Prop} (hf : P.funcs[f]? = some fn) (hb : fn.body = some c) (hn : ds.length ≤ fn.ntmps)
    (h : ∀ C, WC P C fn.ntmps c ⟨env0 ds, H⟩ (endM P fn H Q)) : FunM P f ds H Q := FunM.ofR hf hb hn fun C _ => h C
end Go.DL
namespace Go.DL
open Go.RowKit

section
variable {P : Program} {C : Ctx} {o : Oper} {env : Nat → D} {H H' : Heap} {d : D}
theorem OpD.of (hl : HLe H H')
    (h : ∀ K β (a : Act) (w : World), WS C K β H w → (∀ x ∈ o.op.operands, DR K β true (a.eval x) (ev env x)) → (∀ x ∈ o.op.operands, OkD H (ev env x)) →
      ∃ K' β' v w', (execOp a.eval o).run P w = .ok (.value v) w' ∧ KX C K K' ∧ Agr H β β' ∧ WS C K' β' H' w' ∧ DR K' β' true v d ∧ OkD H' d) : OpD P C o env H d H' :=
  ⟨hl, fun K β a w Kc Q hw hx hk hn => by
    obtain ⟨K', β', v, w', hr, h1, h2, h3, h4, h5⟩ := h K β a w hw hx hk
    exact wpIn_FW (defer_run hr (fun d h => by cases h)) (by rw [hr]; exact hn K' β' v w' h1 h2 h3 h4 h5)⟩
theorem OpD.ofSkip (hl : HLe H H')
    (h : ∀ K β (a : Act) (w : World), WS C K β H w → (∀ x ∈ o.op.operands, DR K β true (a.eval x) (ev env x)) → (∀ x ∈ o.op.operands, OkD H (ev env x)) →
      ∃ K' β' w', (execOp a.eval o).run P w = .ok .skip w' ∧ KX C K K' ∧ Agr H β β' ∧ WS C K' β' H' w') : OpD P C o env H (.v undef) H' :=
  ⟨hl, fun K β a w Kc Q hw hx hk hn => by
    obtain ⟨K', β', w', hr, h1, h2, h3⟩ := h K β a w hw hx hk
    exact wpIn_FW (defer_run hr (fun d h => by cases h)) (by rw [hr]; exact hn K' β' undef w' h1 h2 h3 (.v _ _) (.v _))⟩
/-- An operation that leaves the world alone. -/
theorem OpD.same
    (h : ∀ K β (a : Act) (w : World), WS C K β H w → (∀ x ∈ o.op.operands, DR K β true (a.eval x) (ev env x)) → (∀ x ∈ o.op.operands, OkD H (ev env x)) → ∃ v, (execOp a.eval o).run P w = .ok (.value v) w ∧ DR K β true v d ∧ OkD H d) : OpD P C o env H d H :=
  OpD.of (HLe.refl _) fun K β a w hw hx hk => let ⟨v, h1, h2, h3⟩ := h K β a w hw hx hk; ⟨K, β, v, w, h1, KX.refl _ _, Agr.refl _ _, hw, h2, h3⟩
theorem OpD.cast {d' : D} (h : OpD P C o env H d H') (e : d = d') : OpD P C o env H d' H' := e ▸ h
end

def isV : D → Bool
  | .v _ => true
  | _ => false
section
variable {P : Program} {C : Ctx} {env : Nat → D} {H : Heap} {dst : Option Nat} {ty : TypeId} {pos : String} {after : Array Edge} {gu : Option (Nat × Bool)} {x y z : Operand} {t e : TypeId}
theorem o_move (d : D) (h : ev env x = d) : OpD P C ⟨dst, .move x, ty, pos, after, gu⟩ env H d H := by
  subst h
  exact OpD.same fun K β a w _ hx hk => ⟨_, rfl, hx x (by simp [Op.operands]), hk x (by simp [Op.operands])⟩
theorem o_assign (d : D) (h : ev env x = d) : OpD P C ⟨dst, .assign x, ty, pos, after, gu⟩ env H d H := by
  subst h
  exact OpD.same fun K β a w _ hx hk => ⟨_, rfl, hx x (by simp [Op.operands]), hk x (by simp [Op.operands])⟩
/-- 'pick' on a condition that is known by name. -/
theorem o_pick (b : Bool) (d1 d2 : D) (hc : ev env x = .v (.bool b)) (h1 : ev env y = d1) (h2 : ev env z = d2) : OpD P C ⟨dst, .pick x y z, ty, pos, after, gu⟩ env H (bif b then d1 else d2) H := by
  subst h1 h2
  refine OpD.same fun K β a w _ hx hk => ?_
  have e := hx x (by simp [Op.operands])
  rw [hc] at e
  have e' := e.v_inv
  cases b
  · exact ⟨a.eval z, by simp [execOp, e', asBool], hx z (by simp [Op.operands]), hk z (by simp [Op.operands])⟩
  · exact ⟨a.eval y, by simp [execOp, e', asBool], hx y (by simp [Op.operands]), hk y (by simp [Op.operands])⟩
/-- 'a && b': the second is looked at only where the first is true. -/
theorem o_and (b p : Bool) (hc : ev env x = .v (.bool b)) (h1 : ev env y = gd (b == true) (.v (.bool p))) (h2 : ev env z = .v (.bool false)) : OpD P C ⟨dst, .pick x y z, ty, pos, after, gu⟩ env H (.v (.bool (b && p))) H :=
  (o_pick b _ _ hc h1 h2).cast (by cases b <;> rfl)
theorem o_or (b p : Bool) (hc : ev env x = .v (.bool b)) (h1 : ev env y = .v (.bool true)) (h2 : ev env z = gd (b == false) (.v (.bool p))) : OpD P C ⟨dst, .pick x y z, ty, pos, after, gu⟩ env H (.v (.bool (b || p))) H :=
  (o_pick b _ _ hc h1 h2).cast (by cases b <;> rfl)
theorem o_len_rd {n : Nat} {cs : List D} (hx : ev env x = .rd n cs) (ht : P.underlying t = some (.slice e)) : OpD P C ⟨dst, .call { callee := .builtin .len, args := #[x], argTypes := #[t] }, ty, pos, after, gu⟩ env H (.v (.int .i64 n)) H := by
  refine OpD.same fun K β a w _ hx' _ => ⟨_, ?_, .v _ _, .v _⟩
  have h := hx' x (by simp [Op.operands, Call.operands])
  rw [hx] at h
  obtain ⟨A, c, us, e', _⟩ := h.rd_inv
  simp [execOp, resolve, invoke, builtin, Builtin.len_, run_underlying ht, e', goInt]
theorem o_len_own {id ver off n sz : Nat} (hx : ev env x = .own id ver off n sz) (ht : P.underlying t = some (.slice e)) : OpD P C ⟨dst, .call { callee := .builtin .len, args := #[x], argTypes := #[t] }, ty, pos, after, gu⟩ env H (.v (.int .i64 n)) H := by
  refine OpD.same fun K β a w _ hx' _ => ⟨_, ?_, .v _ _, .v _⟩
  have h := hx' x (by simp [Op.operands, Call.operands])
  rw [hx] at h
  obtain ⟨A, c, e', _⟩ := h.own_len
  simp [execOp, resolve, invoke, builtin, Builtin.len_, run_underlying ht, e', goInt]
end

/-! ### Cells -/
/-- Is a datum one that a cell can hold? -/
def oneD : D → Bool
  | .v x => x.oneCell'
  | .rd .. | .adr _ | .own .. | .ptr .. | .fn .. | .iface .. | .mp .. | .omp .. => true
  | _ => false
theorem oneD.val {K : Mem} {β : Nat → Nat → BT} {m : Bool} {v : Value} {d : D} (h : DR K β m v d) (ho : oneD d = true) : v.oneCell' = true := by
  cases h with
  | any => cases ho
  | v => exact ho
  | agg => cases ho
  | tup => cases ho
  | fn => rfl
  | iface => rfl
  | mp => rfl
  | omp => rfl
  | rd => rfl
  | adr => rfl
  | own => rfl
  | own0 => rfl
  | ptr => rfl
/-- The cells of a datum that is stored. -/
def cellsD : D → List D
  | .agg cs => cs
  | d => [d]
theorem cellsD.val {K : Mem} {β : Nat → Nat → BT} {m : Bool} {v : Value} {d : D} (h : DR K β m v d) (ho : ((cellsD d).all oneD) = true) : v.cells.size = (cellsD d).length ∧ (∀ (j : Nat) u c, v.cells.toList[j]? = some u → (cellsD d)[j]? = some c → DR K β m u c) ∧ ∀ u ∈ v.cells.toList, u.oneCell' = true := by
  have one : ∀ {v : Value} {d : D}, DR K β m v d → v.cells = #[v] → cellsD d = [d] → oneD d = true → v.cells.size = (cellsD d).length ∧ (∀ (j : Nat) u c, v.cells.toList[j]? = some u → (cellsD d)[j]? = some c → DR K β m u c) ∧ ∀ u ∈ v.cells.toList, u.oneCell' = true := by
    intro v d h e1 e2 h1
    rw [e1, e2]
    refine ⟨rfl, fun j u c hu hc => ?_, fun u hu => ?_⟩
    · rcases j with _ | j
      · simp at hu hc; subst hu hc; exact h
      · simp at hu
    · simp at hu; subst hu; exact oneD.val h h1
  have hcells : ∀ {x : Value}, x.oneCell' = true → x.cells = #[x] := by
    intro x hx; cases x <;> first | rfl | cases hx
  cases h with
  | any => simp [cellsD, oneD] at ho
  | v x =>
    have h1 : v.oneCell' = true := by simpa [cellsD, oneD] using ho
    exact one (.v _ _) (hcells h1) rfl h1
  | agg _ us cs hl hd =>
    refine ⟨by simpa [Value.cells, cellsD] using hl, fun j u c hu hc => hd j u c (by simpa [Value.cells] using hu) hc, fun u hu => ?_⟩
    obtain ⟨j, hj⟩ := List.getElem?_of_mem hu
    have hj' : us[j]? = some u := by simpa [Value.cells] using hj
    have hlt : j < cs.length := by rw [← hl]; exact (List.getElem?_eq_some_iff.1 hj').1
    exact oneD.val (hd j u _ hj' (List.getElem?_eq_getElem hlt)) (List.all_eq_true.1 ho _ (List.getElem_mem hlt))
  | tup => simp [cellsD, oneD] at ho
  | fn _ f us cs hl hd => exact one (.fn _ f us cs hl hd) rfl rfl rfl
  | iface _ t u d hd => exact one (.iface _ t u d hd) rfl rfl rfl
  | mp _ r es ck ks cs hk hl hc hd => exact one (.mp _ r es ck ks cs hk hl hc hd) rfl rfl rfl
  | omp _ _ hr => exact one (.omp _ _ hr) rfl rfl rfl
  | rd _ _ _ _ us cs hn hl hc hd => exact one (.rd _ _ _ _ us cs hn hl hc hd) rfl rfl rfl
  | adr _ ad us cs hl hc hd => exact one (.adr _ ad us cs hl hc hd) rfl rfl rfl
  | own _ _ _ _ _ _ hn hm hc hr => exact one (.own _ _ _ _ _ _ hn hm hc hr) rfl rfl rfl
  | own0 _ _ _ hr => exact one (.own0 _ _ _ hr) rfl rfl rfl
  | ptr _ _ _ hr => exact one (.ptr _ _ _ hr) rfl rfl rfl
/-- Cells written over others. -/
def spl {α : Type} (cs : List α) (off : Nat) (ds : List α) : List α := cs.take off ++ ds ++ cs.drop (off + ds.length)
theorem spl_length {α : Type} {cs ds : List α} {off : Nat} (h : off + ds.length ≤ cs.length) : (spl cs off ds).length = cs.length := by unfold spl; simp; omega
theorem spl_get {α : Type} {cs ds : List α} {off : Nat} (h : off + ds.length ≤ cs.length) (j : Nat) : (spl cs off ds)[j]? = if j < off then cs[j]? else if j < off + ds.length then ds[j - off]? else cs[j]? := by
  unfold spl
  by_cases h1 : j < off
  · rw [if_pos h1, List.append_assoc, List.getElem?_append_left (by simp; omega), List.getElem?_take, if_pos h1]
  · rw [if_neg h1]
    by_cases h2 : j < off + ds.length
    · rw [if_pos h2, List.append_assoc, List.getElem?_append_right (by simp; omega), List.getElem?_append_left (by simp; omega)]
      congr 1; simp; omega
    · rw [if_neg h2, List.getElem?_append_right (by simp; omega), List.getElem?_drop]
      congr 1; simp; omega
/-- Cells of a block of the call's own are written. -/
theorem WS.put {C : Ctx} {K : Mem} {β : Nat → Nat → BT} {H : Heap} {w : World} (h : WS C K β H w) {id : Nat} {b : Blk} (hb : H[id]? = some (some b)) (hrl : (β id b.ver).st = .cells) (cs' : List D) (us' rest' : List Value) (hl : us'.length = cs'.length) (ht : us'.length + rest'.length = (β id b.ver).tot) (hg : b.grow = false → rest' = [])
    (hd : ∀ (j : Nat) u d, us'[j]? = some u → cs'[j]? = some d → DR K β true u d) (ho : ∀ c ∈ cs', OkD H c) :
    WS C K β (H.set id (some { b with cs := cs' })) (w.setRow (β id b.ver).blk (us' ++ rest').toArray) := by
  obtain ⟨us, rest, hw, _⟩ := h.real hb hrl
  have hst := hrl
  replace hrl := BT.real_of hrl
  have hid : id < H.length := (List.getElem?_eq_some_iff.1 hb).1
  have split : ∀ {i : Nat} {x : Blk}, (H.set id (some { b with cs := cs' }))[i]? = some (some x) → (i = id ∧ x = { b with cs := cs' }) ∨ (i ≠ id ∧ H[i]? = some (some x)) := by
    intro i x hx
    rw [List.getElem?_set] at hx
    by_cases e : id = i
    · rw [if_pos e, if_pos hid] at hx; simp at hx; exact .inl ⟨e.symm, hx.symm⟩
    · rw [if_neg e] at hx; exact .inr ⟨Ne.symm e, hx⟩
  have hne : ∀ {i : Nat} {x : Blk}, H[i]? = some (some x) → (β i x.ver).real = true → i ≠ id → (β i x.ver).blk ≠ (β id b.ver).blk := fun hx hri hi he => hi (h.inj _ _ _ _ hx hb hri hrl he)
  refine ⟨fun b' c hc => ?_, fun i x hx => ?_, fun i x hx c hc => ?_, fun i j x y hx hy hri hrj he => ?_, fun i x hx hr => ?_, fun i x hx hr => ?_, by rw [setRow_size]; exact h.size, ?_, h.agr, h.hle.trans (HLe.set hb (Nat.le_refl _)), h.kle⟩
  · have hne : b' ≠ (β id b.ver).blk := by intro e; subst e; rw [h.apart id b hb hrl] at hc; cases hc
    rw [setRow_other _ _ _ _ hne]; exact h.holds b' c hc
  · rcases split hx with ⟨rfl, rfl⟩ | ⟨hi, hx⟩
    · unfold BlkR; simp only [hst]; exact ⟨us', rest', setRow_heap _ _ _ _ _ _ hw, hl, ht, hg, hd⟩
    · exact (h.blk i x hx).other fun hr => setRow_other _ _ _ _ (hne hx hr hi)
  · have hle : HLe H (H.set id (some { b with cs := cs' })) := HLe.set hb (Nat.le_refl _)
    rcases split hx with ⟨rfl, rfl⟩ | ⟨hi, hx⟩
    · exact (ho c hc).mono hle
    · exact (h.ok i x hx c hc).mono hle
  · rcases split hx with ⟨rfl, rfl⟩ | ⟨hi, hx1⟩ <;> rcases split hy with ⟨hj, rfl⟩ | ⟨hj, hy1⟩
    · exact hj.symm
    · exact absurd he.symm (hne hy1 hrj hj)
    · subst hj; exact absurd he (hne hx1 hri hi)
    · exact h.inj i j x y hx1 hy1 hri hrj he
  · rcases split hx with ⟨rfl, rfl⟩ | ⟨hi, hx⟩
    · exact h.apart _ b hb hr
    · exact h.apart i x hx hr
  · rcases split hx with ⟨rfl, rfl⟩ | ⟨hi, hx⟩
    · exact h.base _ b hb hr
    · exact h.base i x hx hr
  · exact h.below.other (h.base _ _ hb hrl) rfl rfl rfl (by rw [setRow_size]; exact Nat.le_refl _) fun k hk => setRow_other _ _ _ _ hk
theorem add_lit (b off j : Nat) : (⟨b, off, none⟩ : Addr).add j = ⟨b, off + j, none⟩ := by unfold Addr.add; split <;> simp_all
theorem cell_at {w : World} {b : Nat} {cs : List Value} {e : TypeId} {f : Nat × Nat} (h : w.heap[b]? = some (.cells cs.toArray e f)) (j : Nat) : w.cell? ⟨b, j, none⟩ = cs[j]? := by
  unfold World.cell?; rw [h]; simp

/-- A type whose values have one cell. -/
def flat : TypeDesc → Bool
  | .struct _ | .array _ _ => false
  | _ => true
theorem run_isAgg_flat {P : Program} {t : TypeId} {d : TypeDesc} (h : P.underlying t = some d) (hf : flat d = true) (w : World) : (isAgg t).run P w = .ok false w := by
  cases d <;> first | (simp [flat] at hf; done) | simp [isAgg, run_underlying h]
theorem run_isAgg_deep {P : Program} {t : TypeId} {d : TypeDesc} (h : P.underlying t = some d) (hf : flat d = false) (w : World) : (isAgg t).run P w = .ok true w := by
  cases d <;> first | (simp [flat] at hf; done) | simp [isAgg, run_underlying h]
section
variable {P : Program} {C : Ctx} {env : Nat → D} {H : Heap} {dst : Option Nat} {ty : TypeId} {pos : String} {after : Array Edge} {gu : Option (Nat × Bool)} {x y z : Operand} {t e : TypeId} {td : TypeDesc}
/-- A load of one cell that stays. -/
theorem o_load_adr {d : D} {cs : List D} (hx : ev env x = .adr cs) (ht : P.underlying t = some td) (hf : flat td = true) (hd : cs[0]? = some d) : OpD P C ⟨dst, .load t x, ty, pos, after, gu⟩ env H d H := by
  refine OpD.same fun K β a w hw hx' _ => ?_
  have h := hx' x (by simp [Op.operands])
  rw [hx] at h
  obtain ⟨ad, us, e, hl, hc, hr⟩ := h.adr_inv
  have hlt : 0 < us.length := by rw [hl]; exact (List.getElem?_eq_some_iff.1 hd).1
  have hu : us[0]? = some us[0] := List.getElem?_eq_getElem hlt
  have hcell : w.cell? ad = some us[0] := by have := hw.cell (hc 0 _ hu); simpa [Addr.add] using this
  have hp := hr 0 _ _ hu hd
  refine ⟨us[0], ?_, hp.up rfl, hp.okp rfl⟩
  simp [execOp, e, Instr.loadAt, Instr.sureAddr, loadVar, run_isAgg_flat ht hf, load, Sem.run, hcell]
/-- A load of one cell of a block of the call's own. -/
theorem o_load_ptr {d : D} {id ver off : Nat} {b : Blk} (hx : ev env x = .ptr id ver off) (ht : P.underlying t = some td) (hf : flat td = true) (hb : H[id]? = some (some b)) (hv : b.ver = ver) (hd : b.cs[off]? = some d) : OpD P C ⟨dst, .load t x, ty, pos, after, gu⟩ env H d H := by
  subst hv
  refine OpD.same fun K β a w hw hx' _ => ?_
  have h := hx' x (by simp [Op.operands])
  rw [hx] at h
  obtain ⟨e, hrl⟩ := h.ptr_inv
  obtain ⟨us, rest, hh, hl, _, _, hr⟩ := hw.real hb hrl
  have hlt : off < us.length := by rw [hl]; exact (List.getElem?_eq_some_iff.1 hd).1
  have hu : us[off]? = some us[off] := List.getElem?_eq_getElem hlt
  have hcell : w.cell? ⟨(β id b.ver).blk, off, none⟩ = some us[off] := by rw [cell_at hh, List.getElem?_append_left hlt]; exact hu
  refine ⟨us[off], ?_, hr off _ _ hu hd, hw.ok id b hb d (List.mem_of_getElem? hd)⟩
  simp [execOp, e, Instr.loadAt, Instr.sureAddr, loadVar, run_isAgg_flat ht hf, load, Sem.run, hcell]
/-- A load of a struct or an array that stays. -/
theorem o_load_adr_agg {cs : List D} {n : Nat} (hx : ev env x = .adr cs) (ht : P.underlying t = some td) (hf : flat td = false) (hi : (P.info? t).map (·.size) = some n) (hn : n ≤ cs.length) : OpD P C ⟨dst, .load t x, ty, pos, after, gu⟩ env H (.agg (cs.take n)) H := by
  refine OpD.same fun K β a w hw hx' _ => ?_
  have h := hx' x (by simp [Op.operands])
  rw [hx] at h
  obtain ⟨ad, us, e, hl, hc, hr⟩ := h.adr_inv
  obtain ⟨i, hi', hi2⟩ := Option.map_eq_some_iff.1 hi
  have hrun : (loadCells ad n).run P w = .ok (us.take n).toArray w := by
    have := run_loadCells_list (P := P) w ad (us.take n) fun j v hv => by
      rw [List.getElem?_take] at hv
      split at hv
      · exact hw.cell (hc j v hv)
      · cases hv
    rwa [List.length_take, Nat.min_eq_left (by omega)] at this
  have hp : DR K β false (.agg (us.take n).toArray) (.agg (cs.take n)) := .agg _ _ _ (by simp; omega) fun j u d hu hd => by
    rw [List.getElem?_take] at hu hd
    split at hu
    · rw [if_pos (by assumption)] at hd; exact hr j u d hu hd
    · cases hu
  refine ⟨_, ?_, hp.up rfl, hp.okp rfl⟩
  simp [execOp, e, Instr.loadAt, Instr.sureAddr, loadVar, run_isAgg_deep ht hf, sizeOf, typeInfo, hi', hi2, hrun]
/-- A load of a struct or an array of the call's own. -/
theorem o_load_ptr_agg {id ver off n : Nat} {b : Blk} (hx : ev env x = .ptr id ver off) (ht : P.underlying t = some td) (hf : flat td = false) (hi : (P.info? t).map (·.size) = some n) (hb : H[id]? = some (some b)) (hv : b.ver = ver) (hn : off + n ≤ b.cs.length) :
    OpD P C ⟨dst, .load t x, ty, pos, after, gu⟩ env H (.agg ((b.cs.drop off).take n)) H := by
  subst hv
  refine OpD.same fun K β a w hw hx' _ => ?_
  have h := hx' x (by simp [Op.operands])
  rw [hx] at h
  obtain ⟨e, hrl⟩ := h.ptr_inv
  obtain ⟨us, rest, hh, hl, _, _, hr⟩ := hw.real hb hrl
  obtain ⟨i, hi', hi2⟩ := Option.map_eq_some_iff.1 hi
  have hrun : (loadCells ⟨(β id b.ver).blk, off, none⟩ n).run P w = .ok ((us.drop off).take n).toArray w := by
    have := run_loadCells_list (P := P) w ⟨(β id b.ver).blk, off, none⟩ ((us.drop off).take n) fun j v hv => by
      rw [List.getElem?_take] at hv
      split at hv
      · rw [List.getElem?_drop] at hv
        rw [add_lit, cell_at hh, List.getElem?_append_left (List.getElem?_eq_some_iff.1 hv).1]; exact hv
      · cases hv
    rwa [List.length_take, List.length_drop, Nat.min_eq_left (by omega)] at this
  refine ⟨_, ?_, .agg _ ((us.drop off).take n) _ (by simp; omega) fun j u d hu hd => ?_, .agg _ fun c hc => hw.ok id b hb c (List.mem_of_mem_drop (List.mem_of_mem_take hc))⟩
  · simp [execOp, e, Instr.loadAt, Instr.sureAddr, loadVar, run_isAgg_deep ht hf, sizeOf, typeInfo, hi', hi2, hrun]
  · rw [List.getElem?_take] at hu hd
    split at hu
    · rw [if_pos (by assumption)] at hd
      rw [List.getElem?_drop] at hu hd
      exact hr _ u d hu hd
    · cases hu
/-- A store into a block of the call's own. -/
theorem o_store {id ver off : Nat} {b : Blk} {d : D} (hx : ev env x = .ptr id ver off) (hy : ev env y = d) (hb : H[id]? = some (some b)) (hv : b.ver = ver) (hi : (P.info? t).map (·.size) = some (cellsD d).length) (hn : off + (cellsD d).length ≤ b.cs.length) (h1 : (cellsD d).all oneD = true) :
    OpD P C ⟨dst, .store t x y, ty, pos, after, gu⟩ env H (.v undef) (H.set id (some { b with cs := spl b.cs off (cellsD d) })) := by
  subst hv
  refine OpD.ofSkip (HLe.set hb (Nat.le_refl _)) fun K β a w hw hx' hk => ?_
  have h := hx' x (by simp [Op.operands])
  have hyv := hx' y (by simp [Op.operands])
  have hyk := hk y (by simp [Op.operands])
  rw [hx] at h
  rw [hy] at hyv hyk
  obtain ⟨e, hrl⟩ := h.ptr_inv
  obtain ⟨us, rest, hh, hl, htot, hg, hr⟩ := hw.real hb hrl
  obtain ⟨i, hi', hi2⟩ := Option.map_eq_some_iff.1 hi
  obtain ⟨c1, c2, c3⟩ := cellsD.val hyv h1
  have hst := run_storeCells_at (P := P) (β id b.ver).blk off b.e (a.eval y).cells.toList 0 (us ++ rest).toArray w hh (by simp; omega) c3
  have hlen : (a.eval y).cells.toList.length = (cellsD d).length := by simpa using c1
  have hcs : ((us ++ rest).toArray.toList.take (off + 0) ++ (a.eval y).cells.toList ++ (us ++ rest).toArray.toList.drop (off + 0 + (a.eval y).cells.toList.length)).toArray = (spl us off (a.eval y).cells.toList ++ rest).toArray := by
    congr 1
    simp only [Nat.add_zero, spl]
    rw [List.take_append_of_le_length (by omega), List.drop_append_of_le_length (by omega), List.append_assoc _ _ rest]
  rw [hcs] at hst
  refine ⟨K, β, _, ?_, KX.refl _ _, Agr.refl _ _, hw.put hb hrl (spl b.cs off (cellsD d)) (spl us off (a.eval y).cells.toList) rest ?_ ?_ hg (fun j u c hu hc => ?_) fun c hc => ?_⟩
  · simp [execOp, e, Instr.storeAt, Instr.sureAddr, storeVar, sizeOf, typeInfo, hi', hi2, c1, hst]
  · rw [spl_length (by omega), spl_length (by omega)]; exact hl
  · rw [spl_length (by omega)]; exact htot
  · rw [spl_get (by omega)] at hu hc
    by_cases h1 : j < off
    · rw [if_pos h1] at hu hc; exact hr j u c hu hc
    · rw [if_neg h1] at hu hc
      rw [hlen] at hu
      by_cases h2 : j < off + (cellsD d).length
      · rw [if_pos h2] at hu hc; exact c2 _ u c hu hc
      · rw [if_neg h2] at hu hc; exact hr j u c hu hc
  · unfold spl at hc
    rcases List.mem_append.1 hc with hc | hc
    · rcases List.mem_append.1 hc with hc | hc
      · exact hw.ok id b hb c (List.mem_of_mem_take hc)
      · cases d <;> first
          | (simp [cellsD] at hc; subst hc; exact hyk)
          | (cases hyk with | agg _ h => exact h c hc)
    · exact hw.ok id b hb c (List.mem_of_mem_drop hc)
end
end Go.DL
namespace Go.DL
open Go.RowKit

theorem add_add (a : Addr) (i j : Nat) : (a.add i).add j = a.add (i + j) := by
  unfold Addr.add
  by_cases hi : i = 0 <;> by_cases hj : j = 0 <;> simp [hi, hj, Nat.add_assoc]
section
variable {P : Program} {C : Ctx} {env : Nat → D} {H : Heap} {dst : Option Nat} {ty : TypeId} {pos : String} {after : Array Edge} {gu : Option (Nat × Bool)} {x y z : Operand} {t e : TypeId} {td : TypeDesc}
/-- An operation that makes one new block. -/
theorem OpD.new {o : Oper} {d : D} (b : Blk) (hok : OkD (H ++ [some b]) d)
    (h : ∀ K β (a : Act) (w : World), WS C K β H w → (∀ x ∈ o.op.operands, DR K β true (a.eval x) (ev env x)) → (∀ x ∈ o.op.operands, OkD H (ev env x)) →
      ∃ (us : List Value) (v : Value), (execOp a.eval o).run P w = .ok (.value v) (w.alloc (.cells us.toArray b.e)) ∧ us.length = b.cs.length ∧ (∀ (j : Nat) u d, us[j]? = some u → b.cs[j]? = some d → DR K β true u d) ∧ (∀ c ∈ b.cs, OkD H c) ∧
        (∀ β' : Nat → Nat → BT, β' H.length b.ver = ⟨w.heap.size, us.length, .cells⟩ → DR K β' true v d)) : OpD P C o env H d (H ++ [some b]) :=
  OpD.of (HLe.app _ _) fun K β a w hw hx hk => by
    obtain ⟨us, v, hr, h1, h2, h3, h4⟩ := h K β a w hw hx hk
    have hn := hw.new us [] b h1 (fun _ => rfl) h2 h3
    rw [List.append_nil] at hn
    exact ⟨K, _, v, _, hr, KX.refl _ _, addB_agr, hn, h4 _ addB_at, hok⟩
/-- A new variable, zero. -/
theorem o_alloc {zv : Value} {cs : List D} (hz : (P.info? e).map (·.zero) = some (some zv)) (hcs : zv.cells.toList.map D.v = cs) : OpD P C ⟨dst, .alloc e, ty, pos, after, gu⟩ env H (.ptr H.length 0 0) (H ++ [some ⟨cs, e, false, 0⟩]) := by
  subst hcs
  obtain ⟨i, hi, hi2⟩ := Option.map_eq_some_iff.1 hz
  refine OpD.new _ (.ptr _ _ _ (okV_new _ _)) fun K β a w hw _ _ => ⟨zv.cells.toList, .pointer (some ⟨w.heap.size, 0, none⟩), ?_, by simp, fun j u d hu hd => ?_, fun c hc => ?_, fun β' hβ => ?_⟩
  · simp [execOp, Instr.alloc, zeroValue, typeInfo, hi, hi2, newVar, newRow]
  · simp only at hd
    rw [List.getElem?_map, hu] at hd; simp at hd; subst hd; exact .v _ _
  · obtain ⟨u, _, rfl⟩ := List.mem_map.1 hc; exact .v _
  · have := DR.ptr (K := K) (β := β') H.length 0 0 (by rw [hβ])
    rw [hβ] at this; exact this
/-- A new variable that holds a value. -/
theorem o_box {d : D} (hx : ev env x = d) (h1 : (cellsD d).all oneD = true) : OpD P C ⟨dst, .box e x, ty, pos, after, gu⟩ env H (.ptr H.length 0 0) (H ++ [some ⟨cellsD d, e, false, 0⟩]) := by
  refine OpD.new _ (.ptr _ _ _ (okV_new _ _)) fun K β a w hw hx' hk => ?_
  have hv := hx' x (by simp [Op.operands])
  have hkx := hk x (by simp [Op.operands])
  rw [hx] at hv hkx
  obtain ⟨c1, c2, c3⟩ := cellsD.val hv h1
  refine ⟨(a.eval x).cells.toList, .pointer (some ⟨w.heap.size, 0, none⟩), ?_, by simpa using c1, c2, fun c hc => ?_, fun β' hβ => ?_⟩
  · simp [execOp, Instr.box, newVar, newRow]
  · cases d <;> first
      | (simp [cellsD] at hc; subst hc; exact hkx)
      | (cases hkx with | agg _ h => exact h c hc)
  · have := DR.ptr (K := K) (β := β') H.length 0 0 (by rw [hβ])
    rw [hβ] at this; exact this
/-- The address of an element of a slice that stays. -/
theorem o_ix_rd {n sz : Nat} {cs : List D} {k : IntKind} {i : Int} (hx : ev env x = .rd n cs) (hy : ev env y = .v (.int k i)) (ht : P.underlying t = some (.slice e)) (hi : (P.info? e).map (·.size) = some sz) (h0 : 0 ≤ i) (hlt : i < n) (hcs : i.toNat * sz < cs.length) :
    OpD P C ⟨dst, .indexAddr t x y, ty, pos, after, gu⟩ env H (.adr (cs.drop (i.toNat * sz))) H := by
  refine OpD.same fun K β a w hw hx' hk => ?_
  have h := hx' x (by simp [Op.operands])
  have h2 := hx' y (by simp [Op.operands])
  rw [hx] at h
  rw [hy] at h2
  obtain ⟨A, c, us, e1, hn, hl, hc, hd⟩ := h.rd_inv
  obtain ⟨inf, hi', hi2⟩ := Option.map_eq_some_iff.1 hi
  obtain ⟨ad, rfl, _⟩ := hc 0 _ (List.getElem?_eq_getElem (by omega))
  refine ⟨.pointer (some (ad.add (i.toNat * sz))), ?_, .adr _ _ (us.drop (i.toNat * sz)) _ (by simp [hl]) (fun j u hu => ?_) (fun j u d hu hd' => ?_), .adr _⟩
  · simp [execOp, Instr.indexAt, h2.v_inv, asIntOf, run_underlying ht, e1, h0, hlt, sizeOf, typeInfo, hi', hi2]
  · rw [List.getElem?_drop] at hu
    obtain ⟨ad', e2, hk'⟩ := hc _ u hu
    simp at e2; subst e2
    rw [add_add]; exact hk'
  · rw [List.getElem?_drop] at hu hd'
    exact hd _ u d hu hd'
/-- The address of an element of a slice of the call's own. -/
theorem o_ix_own {id ver off n sz sz' : Nat} {k : IntKind} {i : Int} (hx : ev env x = .own id ver off n sz') (hy : ev env y = .v (.int k i)) (ht : P.underlying t = some (.slice e)) (hi : (P.info? e).map (·.size) = some sz) (h0 : 0 ≤ i) (hlt : i < n) :
    OpD P C ⟨dst, .indexAddr t x y, ty, pos, after, gu⟩ env H (.ptr id ver (off + i.toNat * sz)) H := by
  refine OpD.same fun K β a w hw hx' hk => ?_
  have h := hx' x (by simp [Op.operands])
  have h2 := hx' y (by simp [Op.operands])
  have hkx := hk x (by simp [Op.operands])
  rw [hx] at h hkx
  rw [hy] at h2
  obtain ⟨inf, hi', hi2⟩ := Option.map_eq_some_iff.1 hi
  rcases h.own_inv with ⟨c, e1, _, _, _, hr⟩ | ⟨_, _, hn0, _⟩
  · refine ⟨_, ?_, DR.ptr id ver _ hr, ?_⟩
    · simp [execOp, Instr.indexAt, h2.v_inv, asIntOf, run_underlying ht, e1, h0, hlt, sizeOf, typeInfo, hi', hi2, add_lit]
    · cases hkx with | own _ _ _ _ _ h => exact .ptr _ _ _ h
  · subst hn0; simp at hlt; omega
/-- The address of a field. -/
theorem o_fld_ptr {id ver off n sz : Nat} {fs : Array Field} {fl : Field} (hx : ev env x = .ptr id ver off) (ht : P.underlying t = some (.struct fs)) (hf : fs[n]? = some fl) (hi : (P.info? fl.type).map (·.size) = some sz) (hz : sz ≠ 0) :
    OpD P C ⟨dst, .fieldAddr t x n, ty, pos, after, gu⟩ env H (.ptr id ver (off + fl.offset)) H := by
  refine OpD.same fun K β a w hw hx' hk => ?_
  have h := hx' x (by simp [Op.operands])
  have hkx := hk x (by simp [Op.operands])
  rw [hx] at h hkx
  obtain ⟨e1, hr⟩ := h.ptr_inv
  obtain ⟨inf, hi', hi2⟩ := Option.map_eq_some_iff.1 hi
  refine ⟨_, ?_, DR.ptr id ver _ hr, ?_⟩
  · simp [execOp, Instr.fieldAt, run_underlying ht, hf, e1, Instr.sureAddr, fieldPlace, sizeOf, typeInfo, hi', hi2, hz, add_lit]
  · cases hkx with | ptr _ _ _ h => exact .ptr _ _ _ h
theorem o_fld_adr {n sz : Nat} {cs : List D} {fs : Array Field} {fl : Field} (hx : ev env x = .adr cs) (ht : P.underlying t = some (.struct fs)) (hf : fs[n]? = some fl) (hi : (P.info? fl.type).map (·.size) = some sz) (hz : sz ≠ 0) :
    OpD P C ⟨dst, .fieldAddr t x n, ty, pos, after, gu⟩ env H (.adr (cs.drop fl.offset)) H := by
  refine OpD.same fun K β a w hw hx' hk => ?_
  have h := hx' x (by simp [Op.operands])
  rw [hx] at h
  obtain ⟨ad, us, e1, hl, hc, hd⟩ := h.adr_inv
  obtain ⟨inf, hi', hi2⟩ := Option.map_eq_some_iff.1 hi
  refine ⟨.pointer (some (ad.add fl.offset)), ?_, .adr _ _ (us.drop fl.offset) _ (by simp [hl]) (fun j u hu => ?_) (fun j u d hu hd' => ?_), .adr _⟩
  · simp [execOp, Instr.fieldAt, run_underlying ht, hf, e1, Instr.sureAddr, fieldPlace, sizeOf, typeInfo, hi', hi2, hz]
  · rw [List.getElem?_drop] at hu
    rw [add_add]; exact hc _ u hu
  · rw [List.getElem?_drop] at hu hd'
    exact hd _ u d hu hd'
end

/-! ### Calls -/
/-- A datum that names no block of the call's own. -/
inductive Pure' : D → Prop
  | any : Pure' .any
  | v (x) : Pure' (.v x)
  | rd (n cs) : Pure' (.rd n cs)
  | adr (cs) : Pure' (.adr cs)
  | agg (cs : List D) (h : ∀ c ∈ cs, Pure' c) : Pure' (.agg cs)
  | tup (cs : List D) (h : ∀ c ∈ cs, Pure' c) : Pure' (.tup cs)
  | fn (f : Fn) (cs : List D) (h : ∀ c ∈ cs, Pure' c) : Pure' (.fn f cs)
  | iface (t : TypeId) (d : D) (h : Pure' d) : Pure' (.iface t d)
  | mp (ks cs) : Pure' (.mp ks cs)
theorem DR.down {K : Mem} {β : Nat → Nat → BT} {m : Bool} {x : Value} {d : D} (h : DR K β m x d) (hp : Pure' d) : DR K β false x d := by
  induction h with
  | any m x => exact .any _ _
  | v m x => exact .v _ _
  | agg m us cs hl _ ih => 
    cases hp with
    | agg _ hp => exact .agg _ us cs hl fun j u d hu hd => ih j u d hu hd (hp d (List.mem_of_getElem? hd))
  | tup m us cs hl _ ih =>
    cases hp with
    | tup _ hp => exact .tup _ us cs hl fun j u d hu hd => ih j u d hu hd (hp d (List.mem_of_getElem? hd))
  | fn m f us cs hl _ ih =>
    cases hp with
    | fn _ _ hp => exact .fn _ f us cs hl fun j u d hu hd => ih j u d hu hd (hp d (List.mem_of_getElem? hd))
  | iface m t u d _ ih =>
    cases hp with
    | iface _ _ hp => exact .iface _ t u d (ih hp)
  | mp m r es ck ks cs hk hl hc hd ih => exact .mp _ r es ck ks cs hk hl hc hd
  | rd m A n c us cs hn hl hc hd ih => exact .rd _ A n c us cs hn hl hc hd
  | adr m ad us cs hl hc hd ih => exact .adr _ ad us cs hl hc hd
  | own => cases hp
  | own0 => cases hp
  | ptr => cases hp
  | omp => cases hp
def PureAll : List D → Prop
  | [] => True
  | d :: ds => Pure' d ∧ PureAll ds
theorem PureAll.at : ∀ {ds : List D}, PureAll ds → ∀ d ∈ ds, Pure' d
  | [], _, d, hd => by cases hd
  | x :: ds, h, d, hd => by
    rcases List.mem_cons.1 hd with rfl | hd
    · exact h.1
    · exact h.2.at d hd
/-- A function with a Go body: what a call needs to know of it. -/
structure Callee (P : Program) (f : FuncId) : Prop where
  ex : ∃ fn, P.funcs[f]? = some fn ∧ (fn.name == "runtime.NumGoroutine") = false ∧ fn.body.isNone = false
theorem Callee.of {P : Program} {f : FuncId} {fn : Func} (h : P.funcs[f]? = some fn) (h1 : (fn.name == "runtime.NumGoroutine") = false) (h2 : fn.body.isNone = false) : Callee P f := ⟨fn, h, h1, h2⟩
theorem Callee.run {P : Program} {f : FuncId} (h : Callee P f) (args : Array Value) (w : World) : (callFunc f args).run P w = .ok (.enter f args) w := by
  obtain ⟨fn, h0, h1, h2⟩ := h.ex
  have h1' : ¬ fn.name = "runtime.NumGoroutine" := by simpa using h1
  have h2' : ¬ fn.body = none := by intro e; rw [e] at h2; simp at h2
  simp [callFunc, program, Sem.run, h0, h1', h2']
theorem Ending_upon {C : Ctx} {P : Program} {o : Oper} {a : Act} {Kc : Act → World → Prop} {Q : Exit → Act → World → Prop} {f : FuncId} {args : Array Value} {w w' : World} {R : Ending → World → Prop} (hr : (execOp a.eval o).run P w = .ok (.enter f args) w') (h : Calls P f args w' R)
    (hR : ∀ e w'', R e w'' → ∃ v, e = .returned v ∧ Kc (a.put o.dst v) w'') : o.wpIn (FW C.rd) 0 P a w Kc Q := by
  refine wpIn_FW (defer_run hr (fun d h => by cases h)) ?_
  rw [hr]
  show Calls P f args w' _
  refine h.mono fun e w'' he => ?_
  obtain ⟨v, rfl, hk⟩ := hR e w'' he
  exact hk
section
variable {P : Program} {C : Ctx} {env : Nat → D} {H : Heap} {dst : Option Nat} {ty : TypeId} {pos : String} {after : Array Edge} {gu : Option (Nat × Bool)} {x y z : Operand} {t e : TypeId} {td : TypeDesc}
/-- The same datum; or nil, where a slice is wanted. -/
def ArgIs (d d' : D) : Prop := d = d' ∨ (d = .v (.slice none 0 0) ∧ d' = .rd 0 [])
def ArgsAre (env : Nat → D) : List Operand → List D → Prop
  | [], [] => True
  | x :: xs, d :: ds => ArgIs (ev env x) d ∧ ArgsAre env xs ds
  | _, _ => False
theorem ArgsAre.at {env : Nat → D} : ∀ {xs : List Operand} {ds : List D}, ArgsAre env xs ds → xs.length = ds.length ∧ ∀ (j : Nat) x d, xs[j]? = some x → ds[j]? = some d → ArgIs (ev env x) d
  | [], [], _ => ⟨rfl, by simp⟩
  | x :: xs, d :: ds, h => by
    obtain ⟨h1, h2⟩ := h.2.at
    refine ⟨by simp [h1], fun j y c hy hc => ?_⟩
    rcases j with _ | j
    · simp at hy hc; subst hy hc; exact h.1
    · exact h2 j y c (by simpa using hy) (by simpa using hc)
  | [], _ :: _, h => h.elim
  | _ :: _, [], h => h.elim
theorem DR.arg {K : Mem} {β : Nat → Nat → BT} {m : Bool} {v : Value} {d d' : D} (h : DR K β m v d) (ha : ArgIs d d') : DR K β m v d' := by
  rcases ha with rfl | ⟨rfl, rfl⟩
  · exact h
  · rw [h.v_inv]; exact .rd _ none 0 0 [] [] (Nat.le_refl _) rfl (by simp) (by simp)
/-- A call of a function of data. -/
theorem o_call {f : FuncId} {as_ : List Operand} {ats : Array TypeId} {ds : List D} {d : D} (hc : Callee P f) (hf : Fun P f ds (· = d)) (he : ArgsAre env as_ ds) (hpa : PureAll ds) :
    OpD P C ⟨dst, .call { callee := .value (.func f), args := as_.toArray, argTypes := ats }, ty, pos, after, gu⟩ env H d H := by
  have hp := hpa.at
  obtain ⟨hlen, hz⟩ := he.at
  refine ⟨HLe.refl _, fun K β a w Kc Q hw hx hk hn => ?_⟩
  have hrun : (execOp a.eval ⟨dst, .call { callee := .value (.func f), args := as_.toArray, argTypes := ats }, ty, pos, after, gu⟩).run P w = .ok (.enter f (as_.map a.eval).toArray) w := by
    simp [execOp, resolve, Act.eval, Deferred.ofValue, invoke, hc.run]
  refine Ending_upon hrun (hf K w (as_.map a.eval) (by simp [hlen]) (fun j v d' hv hd => ?_) hw.holds) fun e w'' ⟨v, d', K', h1, h2, h3, h4, h5, h6⟩ => ⟨v, h1, ?_⟩
  · rw [List.getElem?_map] at hv
    cases hj : as_[j]? with
    | none => rw [hj] at hv; cases hv
    | some x =>
      rw [hj] at hv
      simp at hv
      subst hv
      have hm : x ∈ as_ := List.mem_of_getElem? hj
      have := (hx x (by simp [Op.operands, Call.operands, hm])).arg (hz j x d' hj hd)
      exact (this.down (hp _ (List.mem_of_getElem? hd))).pure rfl
  · subst h2
    have hws := hw.ext h3.le (fun b c hb => (h3.new b c hb).imp id fun h => h.elim id False.elim) h4 h6
    exact hn K' β v w'' (h3.mono (bare_owns hw.size)) (Agr.refl _ _) hws ((h5.pure rfl).up rfl) (h5.okp rfl)
end
end Go.DL
namespace Go.DL
open Go.RowKit

/-- Operation j is carried out ahead of operation i, by edges. -/
inductive Bf (ops : Array Oper) : Nat → Nat → Prop
  | one {i : Nat} {o : Oper} (h : ops[i]? = some o) {e : Edge} (he : e ∈ o.after) (hb : Region.binds .any e = true) : Bf ops e.on i
  | more {i j : Nat} {o : Oper} (h : ops[i]? = some o) {e : Edge} (he : e ∈ o.after) (hb : Region.binds .any e = true) (r : Bf ops j e.on) : Bf ops j i
def Closed (ops : Array Oper) (L : Nat → Bool) : Prop := ∀ (i : Nat) o, L i = true → ops[i]? = some o → ∀ e ∈ o.after, Region.binds .any e = true → L e.on = true
theorem Closed.bf {ops : Array Oper} {L : Nat → Bool} (h : Closed ops L) {i j : Nat} (hb : Bf ops j i) (hi : L i = true) : L j = true := by
  induction hb with
  | one h1 he hb => exact h _ _ hi h1 _ he hb
  | more h1 he hb _ ih => exact ih (h _ _ hi h1 _ he hb)
theorem Closed.ready {ops : Array Oper} {L : Nat → Bool} (h : Closed ops L) {i j : Nat} {o : Oper} (ho : ops[i]? = some o) (hr : ∀ e ∈ o.after, Region.binds .any e = true → L e.on = true) (hb : Bf ops j i) : L j = true := by
  cases hb with
  | one h1 he hb => rw [ho] at h1; cases h1; exact hr _ he hb
  | more h1 he hb r => rw [ho] at h1; cases h1; exact h.bf r (hr _ he hb)

theorem mask_sound (ops : Array Oper) (i : Nat) (o : Oper) (ho : ops[i]? = some o) (look : Nat → Nat) (hl : ∀ k j, (look k).testBit j = true → Bf ops j k) (j : Nat) (h : (Go.CheckFast.one look o).testBit j = true) : Bf ops j i := by
  unfold Go.CheckFast.one at h
  rw [← Array.foldl_toList] at h
  have key : ∀ (l : List Edge) (s : Nat), (∀ e ∈ l, e ∈ o.after) → (s.testBit j = true → Bf ops j i) → (l.foldl (fun s e => if Region.binds .any e then s ||| 2 ^ e.on ||| look e.on else s) s).testBit j = true → Bf ops j i := by
    intro l
    induction l with
    | nil => intro s _ hs h; exact hs h
    | cons e l ih =>
      intro s hm hs h
      rw [List.foldl_cons] at h
      refine ih _ (fun e he => hm e (by simp [he])) (fun h => ?_) h
      by_cases hb : Region.binds .any e = true
      · rw [if_pos hb, Nat.testBit_or, Nat.testBit_or] at h
        simp only [Bool.or_eq_true] at h
        rcases h with (h | h) | h
        · exact hs h
        · rw [Nat.testBit_two_pow] at h
          have : e.on = j := by simpa using h
          subst this
          exact .one ho (hm e (by simp)) hb
        · exact .more ho (hm e (by simp)) hb (hl _ _ h)
      · rw [if_neg hb] at h; exact hs h
  exact key o.after.toList 0 (fun e he => by simpa using he) (by simp) h
theorem before_sound (ops : Array Oper) : ∀ i j, ((Go.CheckFast.beforeF ops).getD i 0).testBit j = true → Bf ops j i := by
  rw [Go.CheckFast.beforeF_eq]
  unfold Region.before
  rw [← Array.foldl_toList]
  have key : ∀ (l : List Oper) (acc : Array Nat), (∀ k (o : Oper), l[k]? = some o → ops[acc.size + k]? = some o) → (∀ i j, (acc.getD i 0).testBit j = true → Bf ops j i) →
      ∀ i j, ((l.foldl (fun acc o => acc.push (Go.CheckFast.one (fun k => acc.getD k 0) o)) acc).getD i 0).testBit j = true → Bf ops j i := by
    intro l
    induction l with
    | nil => intro acc _ h; exact h
    | cons o l ih =>
      intro acc hl ha
      rw [List.foldl_cons]
      refine ih _ (fun k o' hk => by have := hl (k + 1) o' (by simpa using hk); simpa [Nat.add_assoc, Nat.add_comm 1 k] using this) fun i j h => ?_
      by_cases hi : i < acc.size
      · rw [show (acc.push (Go.CheckFast.one (fun k => acc.getD k 0) o)).getD i 0 = acc.getD i 0 by simp [Array.getD_eq_getD_getElem?, Array.getElem?_push, show ¬ i = acc.size by omega]] at h
        exact ha i j h
      · by_cases he : i = acc.size
        · subst he
          rw [show (acc.push (Go.CheckFast.one (fun k => acc.getD k 0) o)).getD acc.size 0 = Go.CheckFast.one (fun k => acc.getD k 0) o by simp [Array.getD_eq_getD_getElem?]] at h
          exact mask_sound ops acc.size o (by simpa using hl 0 o rfl) _ ha j h
        · rw [show (acc.push (Go.CheckFast.one (fun k => acc.getD k 0) o)).getD i 0 = 0 by rw [Array.getD_eq_getD_getElem?, Array.getElem?_eq_none (by simp; omega)]; rfl] at h
          simp at h
  exact fun i j h => key ops.toList #[] (fun k o hk => by simpa using hk) (by simp [Array.getD]) i j h

/-- Do two operations name one slot that one of them writes? ('looks' are the slots that one reads.) -/
def clash (ops : Array Oper) (x y : Oper) : Bool :=
  (match x.dst with | some d => (y.looksAt ops).elem d || (match y.dst with | some d' => Nat.beq d d' | none => false) | none => false) ||
  (match y.dst with | some d => (x.looksAt ops).elem d | none => false)
/-- Operations that clash, and operations that change blocks, stand in one order; edges lead back. 'cs': which ones change blocks. -/
def drawOK (ops : Array Oper) (cs : List Bool) : Bool :=
  let b := Go.CheckFast.beforeF ops
  (List.range ops.size).all fun i => match ops[i]? with
    | none => true
    | some x => x.after.toList.all (fun e => !Region.binds .any e || Nat.blt e.on i) &&
      (List.range i).all fun j => match ops[j]? with
        | none => true
        | some y => !(clash ops x y || (cs.getD i false && cs.getD j false)) || (b.getD i 0).testBit j
theorem drawOK_edge {ops : Array Oper} {cs : List Bool} (h : drawOK ops cs = true) {i : Nat} {o : Oper} (ho : ops[i]? = some o) {e : Edge} (he : e ∈ o.after) (hb : Region.binds .any e = true) : e.on < i := by
  have hi : i < ops.size := (Array.getElem?_eq_some_iff.1 ho).1
  unfold drawOK at h
  have h1 := List.all_eq_true.1 h i (by simpa using hi)
  simp only [ho, Bool.and_eq_true] at h1
  have h2 := List.all_eq_true.1 h1.1 e (by simpa using he)
  simpa [hb, Nat.blt_eq] using h2
theorem drawOK_pair {ops : Array Oper} {cs : List Bool} (h : drawOK ops cs = true) {i j : Nat} {x y : Oper} (hx : ops[i]? = some x) (hy : ops[j]? = some y) (hji : j < i) (hc : clash ops x y = true ∨ (cs.getD i false = true ∧ cs.getD j false = true)) : Bf ops j i := by
  have hi : i < ops.size := (Array.getElem?_eq_some_iff.1 hx).1
  unfold drawOK at h
  have h1 := List.all_eq_true.1 h i (by simpa using hi)
  simp only [hx, Bool.and_eq_true] at h1
  have h2 := List.all_eq_true.1 h1.2 j (by simpa using hji)
  simp only [hy] at h2
  refine before_sound ops i j ?_
  have hA : (clash ops x y || (cs.getD i false && cs.getD j false)) = true := by
    rcases hc with hc | ⟨c1, c2⟩
    · rw [hc]; rfl
    · rw [c1, c2]; simp
  rw [hA] at h2
  simpa only [Bool.not_true, Bool.false_or] using h2
theorem clash_spec {ops : Array Oper} {x y : Oper} {d : Nat} : (x.dst = some d → d ∈ y.looksAt ops → clash ops x y = true) ∧ (y.dst = some d → d ∈ x.looksAt ops → clash ops x y = true) ∧ (x.dst = some d → y.dst = some d → clash ops x y = true) := by
  refine ⟨fun h1 h2 => ?_, fun h1 h2 => ?_, fun h1 h2 => ?_⟩
  · unfold clash; simp [h1, h2]
  · unfold clash; simp [h1, h2]
  · unfold clash; simp [h1, h2]

/-- One operation of a region, its guard looked at: it looks at its slots alone. -/
structure Stp (P : Program) (C : Ctx) (N : Nat) (ops : Array Oper) (i : Nat) (env : Nat → D) (H : Heap) (d : D) (H' : Heap) : Prop where
  len : HLe H H'
  go : ∀ (o : Oper), ops[i]? = some o → ∀ K β (a : Act) (w : World) (Kc : Act → World → Prop) (Q : Exit → Act → World → Prop), WS C K β H w → a.tmps.size = N → (∀ t ∈ o.looksAt ops, DR K β true (a.tmps.getD t undef) (env t) ∧ OkD H (env t)) →
    (∀ K' β' v w', KX C K K' → Agr H β β' → WS C K' β' H' w' → DR K' β' true v d → OkD H' d → Kc (a.put o.dst v) w') → wpOpIn (FW C.rd) 0 P ops Q i Kc a w

/-- A region's steps, told in the text's order: what each makes; does it change blocks; the blocks behind it. 'Hs': the blocks at which a step that changes none may come. -/
inductive Plan (P : Program) (C : Ctx) (N : Nat) (ops : Array Oper) (Hs : Heap → Prop) : Nat → List Oper → (Nat → D) → Heap → List (D × Bool × Heap) → (Nat → D) → Heap → Prop
  | nil (i : Nat) (env H) : Plan P C N ops Hs i [] env H [] env H
  | pure {i : Nat} {o : Oper} {rest : List Oper} {env H l env' H'} (d : D) (hf : fits N o = true) (h : ∀ H, Hs H → Stp P C N ops i env H d H) (r : Plan P C N ops Hs (i + 1) rest (updO env o.dst d) H l env' H') : Plan P C N ops Hs i (o :: rest) env H ((d, false, H) :: l) env' H'
  | chg {i : Nat} {o : Oper} {rest : List Oper} {env H l env' H'} (d : D) (H1 : Heap) (hf : fits N o = true) (h : Stp P C N ops i env H d H1) (r : Plan P C N ops Hs (i + 1) rest (updO env o.dst d) H1 l env' H') : Plan P C N ops Hs i (o :: rest) env H ((d, true, H1) :: l) env' H'

section
variable (ops : Array Oper) (l : List (D × Bool × Heap)) (L : Nat → Bool) (env0 : Nat → D) (H0 : Heap)
/-- What slots hold when the steps of L below m have been carried out. -/
def EL : Nat → (Nat → D)
  | 0 => env0
  | i + 1 => if L i = true then (match ops[i]?, l[i]? with | some o, some s => updO (EL i) o.dst s.1 | _, _ => EL i) else EL i
def HL : Nat → Heap
  | 0 => H0
  | i + 1 => if L i = true then (match l[i]? with | some s => if s.2.1 = true then s.2.2 else HL i | none => HL i) else HL i
end
theorem EL_congr {ops : Array Oper} {l : List (D × Bool × Heap)} {L L' : Nat → Bool} {env0 : Nat → D} {t : Nat} : ∀ m, (∀ (j : Nat) o, j < m → ops[j]? = some o → o.dst = some t → L j = L' j) → EL ops l L env0 m t = EL ops l L' env0 m t
  | 0, _ => rfl
  | m + 1, h => by
    have ih := EL_congr (l := l) (env0 := env0) m (fun j o hj => h j o (by omega))
    unfold EL
    cases ho : ops[m]? with
    | none => simpa using ih
    | some o =>
      cases hs : l[m]? with
      | none => simpa using ih
      | some s =>
        by_cases hd : o.dst = some t
        · rw [h m o (by omega) ho hd]
          by_cases hL : L' m = true
          · rw [if_pos hL, if_pos hL]; simp only [hd, updO, upd_at]
          · rw [if_neg hL, if_neg hL]; exact ih
        · have hu : ∀ e : Nat → D, updO e o.dst s.1 t = e t := by
            intro e
            cases hdd : o.dst with
            | none => rfl
            | some d => exact upd_ne _ _ (fun he => hd (by rw [hdd, he]))
          by_cases h1 : L m = true <;> by_cases h2 : L' m = true <;> simp only [h1, h2, if_true, if_false, Bool.false_eq_true, hu] <;> exact ih
theorem HL_congr {l : List (D × Bool × Heap)} {L L' : Nat → Bool} {H0 : Heap} : ∀ m, (∀ (j : Nat) s, j < m → l[j]? = some s → s.2.1 = true → L j = L' j) → HL l L H0 m = HL l L' H0 m
  | 0, _ => rfl
  | m + 1, h => by
    have ih := HL_congr (H0 := H0) m (fun j s hj => h j s (by omega))
    unfold HL
    cases hs : l[m]? with
    | none => simpa using ih
    | some s =>
      by_cases hn : s.2.1 = true
      · rw [h m s (by omega) hs hn]
        by_cases hL : L' m = true
        · rw [if_pos hL, if_pos hL]; simp only [hn, if_true]
        · rw [if_neg hL, if_neg hL]; exact ih
      · by_cases h1 : L m = true <;> by_cases h2 : L' m = true <;> simp [h1, h2, hn] <;> exact ih
/-- Steps that are not listed do nothing. -/
theorem EL_stop {ops : Array Oper} {l : List (D × Bool × Heap)} {L : Nat → Bool} {env0 : Nat → D} {t i : Nat} : ∀ m, i ≤ m → (∀ (j : Nat) o, i ≤ j → j < m → ops[j]? = some o → o.dst = some t → L j = false) → EL ops l L env0 m t = EL ops l L env0 i t
  | 0, h, _ => by have : i = 0 := by omega
                  subst this; rfl
  | m + 1, h, hn => by
    by_cases he : i = m + 1
    · subst he; rfl
    · have ih := EL_stop (l := l) (env0 := env0) m (by omega) (fun j o h1 h2 => hn j o h1 (by omega))
      rw [← ih]
      conv => lhs; unfold EL
      cases ho : ops[m]? with
      | none => simp
      | some o =>
        cases hs : l[m]? with
        | none => simp
        | some s =>
          by_cases hd : o.dst = some t
          · rw [hn m o (by omega) (by omega) ho hd]; simp
          · by_cases h1 : L m = true
            · simp only [h1, if_true]
              cases hdd : o.dst with
              | none => rfl
              | some d => exact upd_ne _ _ (fun he => hd (by rw [hdd, he]))
            · rw [if_neg h1]
theorem HL_all {l : List (D × Bool × Heap)} {L : Nat → Bool} {H0 : Heap} {Hs : Heap → Prop} (h0 : Hs H0) (h : ∀ x ∈ l, x.2.1 = true → Hs x.2.2) : ∀ m, Hs (HL l L H0 m)
  | 0 => h0
  | m + 1 => by
    have ih := HL_all (L := L) h0 h m
    unfold HL
    split
    · cases hs : l[m]? with
      | none => exact ih
      | some s =>
        show Hs (if s.2.1 = true then s.2.2 else _)
        split
        · exact h s (List.mem_of_getElem? hs) (by assumption)
        · exact ih
    · exact ih
theorem HL_stop {l : List (D × Bool × Heap)} {L : Nat → Bool} {H0 : Heap} {i : Nat} : ∀ m, i ≤ m → (∀ (j : Nat) s, i ≤ j → j < m → l[j]? = some s → s.2.1 = true → L j = false) → HL l L H0 m = HL l L H0 i
  | 0, h, _ => by have : i = 0 := by omega
                  subst this; rfl
  | m + 1, h, hn => by
    by_cases he : i = m + 1
    · subst he; rfl
    · have ih := HL_stop (H0 := H0) m (by omega) (fun j s h1 h2 => hn j s h1 (by omega))
      rw [← ih]
      conv => lhs; unfold HL
      cases hs : l[m]? with
      | none => simp
      | some s =>
        by_cases hd : s.2.1 = true
        · rw [hn m s (by omega) (by omega) hs hd]; simp
        · simp [hd]

theorem Plan.length {P : Program} {C : Ctx} {N : Nat} {ops : Array Oper} {Hs : Heap → Prop} {i : Nat} {rest : List Oper} {env H l env' H'} (h : Plan P C N ops Hs i rest env H l env' H') : l.length = rest.length := by
  induction h with
  | nil => rfl
  | pure _ _ _ _ ih => simp [ih]
  | chg _ _ _ _ _ ih => simp [ih]
theorem Plan.at {P : Program} {C : Ctx} {N : Nat} {ops : Array Oper} {Hs : Heap → Prop} {env0 : Nat → D} {H0 : Heap} {l0 : List (D × Bool × Heap)} {i : Nat} {rest : List Oper} {env H l env' H'} (h : Plan P C N ops Hs i rest env H l env' H')
    (ho : ∀ k, rest[k]? = ops[i + k]?) (hl : ∀ k, l[k]? = l0[i + k]?) (he : env = EL ops l0 (fun _ => true) env0 i) (hh : H = HL l0 (fun _ => true) H0 i) :
    (∀ (k : Nat) s, i ≤ k → l0[k]? = some s → fits N (ops.getD k default) = true ∧ (s.2.1 = false → ∀ H, Hs H → Stp P C N ops k (EL ops l0 (fun _ => true) env0 k) H s.1 H) ∧
      (s.2.1 = true → Stp P C N ops k (EL ops l0 (fun _ => true) env0 k) (HL l0 (fun _ => true) H0 k) s.1 s.2.2)) ∧ env' = EL ops l0 (fun _ => true) env0 (i + rest.length) ∧ H' = HL l0 (fun _ => true) H0 (i + rest.length) := by
  induction h with
  | nil i env H =>
    refine ⟨fun k s hk hs => ?_, by simpa using he, by simpa using hh⟩
    have := hl (k - i)
    rw [show i + (k - i) = k by omega, hs] at this
    simp at this
  | @pure i o rest env H l env' H' d hf h r ih =>
    have ho0 : ops[i]? = some o := by simpa using (ho 0).symm
    have hl0 : l0[i]? = some (d, false, H) := by simpa using (hl 0).symm
    have ih' := ih (fun k => by have := ho (k + 1); simpa [Nat.add_assoc, Nat.add_comm 1 k] using this) (fun k => by have := hl (k + 1); simpa [Nat.add_assoc, Nat.add_comm 1 k] using this)
      (by subst he; show _ = EL _ _ _ _ (i + 1); rw [EL]; simp [ho0, hl0]) (by subst hh; show _ = HL _ _ _ (i + 1); rw [HL]; simp [hl0])
    refine ⟨fun k s hk hs => ?_, by rw [ih'.2.1]; congr 1; simp; omega, by rw [ih'.2.2]; congr 1; simp; omega⟩
    by_cases e : k = i
    · subst e
      rw [hl0] at hs; cases hs
      refine ⟨by simp [Array.getD_eq_getD_getElem?, ho0]; exact hf, fun _ H' hH => he ▸ h H' hH, fun hx => by cases hx⟩
    · exact ih'.1 k s (by omega) hs
  | @chg i o rest env H l env' H' d H1 hf h r ih =>
    have ho0 : ops[i]? = some o := by simpa using (ho 0).symm
    have hl0 : l0[i]? = some (d, true, H1) := by simpa using (hl 0).symm
    have ih' := ih (fun k => by have := ho (k + 1); simpa [Nat.add_assoc, Nat.add_comm 1 k] using this) (fun k => by have := hl (k + 1); simpa [Nat.add_assoc, Nat.add_comm 1 k] using this)
      (by subst he; show _ = EL _ _ _ _ (i + 1); rw [EL]; simp [ho0, hl0]) (by show _ = HL _ _ _ (i + 1); rw [HL]; simp [hl0])
    refine ⟨fun k s hk hs => ?_, by rw [ih'.2.1]; congr 1; simp; omega, by rw [ih'.2.2]; congr 1; simp; omega⟩
    by_cases e : k = i
    · subst e
      rw [hl0] at hs; cases hs
      refine ⟨by simp [Array.getD_eq_getD_getElem?, ho0]; exact hf, fun hx => (by cases hx), fun _ => by subst he hh; exact h⟩
    · exact ih'.1 k s (by omega) hs

/-- How many of the first m are not listed. -/
def UL : Nat → (Nat → Bool) → Nat
  | 0, _ => 0
  | m + 1, L => UL m L + (if L m = true then 0 else 1)
theorem UL_le : ∀ m (L : Nat → Bool), UL m L ≤ m
  | 0, _ => Nat.le_refl _
  | m + 1, L => by unfold UL; have := UL_le m L; split <;> omega
theorem UL_zero {L : Nat → Bool} : ∀ {m}, UL m L = 0 → ∀ i, i < m → L i = true
  | 0, _, i, hi => by omega
  | m + 1, h, i, hi => by
    unfold UL at h
    by_cases e : i = m
    · subst e
      by_cases hL : L i = true
      · exact hL
      · rw [if_neg hL] at h; omega
    · have h' : UL m L = 0 := by revert h; split <;> omega
      exact UL_zero h' i (by omega)
theorem UL_mono {L L' : Nat → Bool} (h : ∀ j, L j = true → L' j = true) : ∀ m, UL m L' ≤ UL m L
  | 0 => Nat.le_refl _
  | m + 1 => by
    unfold UL
    have := UL_mono h m
    by_cases h1 : L m = true
    · rw [if_pos h1, if_pos (h m h1)]; exact this
    · rw [if_neg h1]; split <;> omega
theorem UL_lt {L L' : Nat → Bool} : ∀ m i, i < m → L i = false → L' i = true → (∀ j, L j = true → L' j = true) → UL m L' < UL m L
  | 0, i, hi, _, _, _ => by omega
  | m + 1, i, hi, h1, h2, h => by
    unfold UL
    by_cases e : i = m
    · subst e
      have := UL_mono h i
      rw [h1, h2]; simp; omega
    · have := UL_lt m i (by omega) h1 h2 h
      by_cases h3 : L m = true
      · rw [if_pos h3, if_pos (h m h3)]; omega
      · rw [if_neg h3]; split <;> omega
theorem getD_bool {A : Array Bool} {i : Nat} (h : i < A.size) {b b' : Bool} : A.getD i b = A.getD i b' := by simp [Array.getD, h]
theorem drawn_end {C : Ctx} {N : Nat} {ol : List Oper} {l : List (D × Bool × Heap)} {K K1 : Mem} {β1 : Nat → Nat → BT} {a : Act} {w : World} {s : St} {listed : Array Bool} {β : Nat → Nat → BT} {Q : DX → St → Prop} {env' : Nat → D} {H' : Heap} (hK : Ext C K β s.H K1 β1 (HL l (fun i => listed.getD i true) s.H ol.length))
    (hw : WS C K1 β1 (HL l (fun i => listed.getD i true) s.H ol.length) w) (hN : a.tmps.size = N) (hdf : Marks C.B K1 a.defers) (hrd : ∀ t, DR K1 β1 true (a.tmps.getD t undef) (EL ol.toArray l (fun i => listed.getD i true) s.env ol.length t))
    (hokd : ∀ t, OkD (HL l (fun i => listed.getD i true) s.H ol.length) (EL ol.toArray l (fun i => listed.getD i true) s.env ol.length t)) (hall : ∀ i, i < ol.length → listed.getD i true = true)
    (he' : env' = EL ol.toArray l (fun _ => true) s.env (0 + ol.length)) (hh' : H' = HL l (fun _ => true) s.H (0 + ol.length)) (hq : Q .normal ⟨env', H'⟩) : AftX C N K β s.H Q .normal a w := by
  rw [Nat.zero_add] at he' hh'
  have e1 : HL l (fun i => listed.getD i true) s.H ol.length = H' := by rw [hh']; exact HL_congr _ fun j _ hj _ _ => hall j hj
  have e2 : ∀ t, EL ol.toArray l (fun i => listed.getD i true) s.env ol.length t = env' t := by intro t; rw [he']; exact EL_congr _ fun j _ hj _ _ => hall j hj
  rw [e1] at hw hokd hK
  exact ⟨K1, β1, ⟨env', H'⟩, .normal, hK, ⟨hw, hN, hdf, fun t => by have := hrd t; rw [e2] at this; exact this, fun t => by have := hokd t; rw [e2] at this; exact this⟩, trivial, hq⟩

/-- A region that draws its order: its plan, in the text's order. -/
theorem WC.drawn {P : Program} {C : Ctx} {N : Nat} {s : St} {Q : DX → St → Prop} {id : Nat} {ol : List Oper} (Hs : Heap → Prop) (l : List (D × Bool × Heap)) (env' : Nat → D) (H' : Heap) (hm : P.follows .mixedOrders = true)
    (hp : Plan P C N ol.toArray Hs 0 ol s.env s.H l env' H') (hok : drawOK ol.toArray (l.map fun s => s.2.1) = true) (hHs : (∀ H, Hs H) ∨ (Hs s.H ∧ ∀ x ∈ l, x.2.1 = true → Hs x.2.2)) (hq : Q .normal ⟨env', H'⟩) : WC P C N (.region id ol.toArray true) s Q := by
  intro K β a w hs
  obtain ⟨hst, he', hh'⟩ := hp.at (env0 := s.env) (H0 := s.H) (l0 := l) (by simp) (by simp) rfl rfl
  have hlen : l.length = ol.length := hp.length
  refine wpIn_region_any hm ?_
  let n := ol.length
  let Lof : Array Bool → Nat → Bool := fun listed i => listed.getD i true
  have key : ∀ (fuel : Nat) (listed : Array Bool) (K1 : Mem) (β1 : Nat → Nat → BT) (a : Act) (w : World), listed.size = ol.length → UL ol.length (fun i => listed.getD i true) ≤ fuel → Closed ol.toArray (fun i => listed.getD i true) → Ext C K β s.H K1 β1 (HL l (fun i => listed.getD i true) s.H ol.length) →
      WS C K1 β1 (HL l (fun i => listed.getD i true) s.H ol.length) w → a.tmps.size = N → Marks C.B K1 a.defers →
      (∀ t, DR K1 β1 true (a.tmps.getD t undef) (EL ol.toArray l (fun i => listed.getD i true) s.env ol.length t)) → (∀ t, OkD (HL l (fun i => listed.getD i true) s.H ol.length) (EL ol.toArray l (fun i => listed.getD i true) s.env ol.length t)) →
      wpAnyIn (FW C.rd) 0 P .any ol.toArray (AftX C N K β s.H Q) fuel listed a w := by
    intro fuel
    induction fuel with
    | zero =>
      intro listed K1 β1 a w hsz hU hcl hK hw hN hdf hrd hokd
      have hall : ∀ i, i < ol.length → listed.getD i true = true := fun i hi => UL_zero (L := fun i => listed.getD i true) (m := ol.length) (by omega) i hi
      refine ⟨?_, ?_⟩
      · rw [List.eq_nil_iff_forall_not_mem]
        intro i hi
        obtain ⟨h0, o, ho, _⟩ := mem_ready.1 hi
        have := hall i (by have := (Array.getElem?_eq_some_iff.1 ho).1; simpa using this)
        rw [this] at h0; cases h0
      · exact drawn_end hK hw hN hdf hrd hokd hall he' hh' hq
    | succ fuel ih =>
      intro listed K1 β1 a w hsz hU hcl hK hw hN hdf hrd hokd
      refine ⟨fun hnil => ?_, fun i hi => ?_⟩
      · have hall : ∀ i, i < ol.length → listed.getD i true = true := by
          intro i
          induction i using Nat.strongRecOn with
          | _ i ihi =>
            intro hi
            cases hL : listed.getD i true with
            | true => rfl
            | false =>
              exfalso
              have : i ∈ Region.ready .any ol.toArray listed := mem_ready.2 ⟨hL, ol[i], by simp [hi], fun e he hb => by
                have hlt := drawOK_edge hok (i := i) (o := ol[i]) (by simp [hi]) he hb
                have := ihi e.on hlt (by omega)
                rwa [getD_bool (by omega)] at this⟩
              rw [hnil] at this; cases this
        exact drawn_end hK hw hN hdf hrd hokd hall he' hh' hq
      · obtain ⟨hLi, o, ho, hed⟩ := mem_ready.1 hi
        have hin : i < ol.length := by have := (Array.getElem?_eq_some_iff.1 ho).1; simpa using this
        have hol : ol.toArray.getD i default = o := by rw [Array.getD_eq_getD_getElem?, ho]; rfl
        have hed' : ∀ e ∈ o.after, Region.binds .any e = true → listed.getD e.on true = true := fun e he hb => by
          have := hed e he hb
          have hlt := drawOK_edge hok ho he hb
          rw [getD_bool (by omega)]; exact this
        have hs' : l[i]? = some (l[i]'(by omega)) := List.getElem?_eq_getElem (by omega)
        obtain ⟨hfit, hP, hM⟩ := hst i _ (Nat.zero_le _) hs'
        rw [hol] at hfit
        generalize hsi : l[i]'(by omega) = si at *
        -- what it reads
        have hread : ∀ t ∈ o.looksAt ol.toArray, EL ol.toArray l (fun i => listed.getD i true) s.env ol.length t = EL ol.toArray l (fun _ => true) s.env i t := by
          intro t ht
          rw [EL_stop (i := i) ol.length (by omega) fun j oj h1 h2 hoj hd => ?_]
          · refine EL_congr i fun j oj h1 hoj hd => ?_
            exact hcl.ready ho hed' (drawOK_pair hok ho hoj h1 (.inl (clash_spec.2.1 hd ht)))
          · by_cases e : j = i
            · subst e; exact hLi
            · cases hLj : listed.getD j true with
              | false => rfl
              | true =>
                have this : listed.getD i true = true := hcl.bf (drawOK_pair hok hoj ho (by omega) (.inl (clash_spec.1 hd ht))) hLj
                rw [hLi] at this; cases this
        have hset : ∀ j, (listed.setIfInBounds i true).getD j true = if j = i then true else listed.getD j true := by
          intro j
          by_cases e : j = i
          · subst e; rw [if_pos rfl]; simp [hsz, hin]
          · rw [if_neg e, getD_set_ne true (Ne.symm e)]
        have hcl' : Closed ol.toArray (fun j => (listed.setIfInBounds i true).getD j true) := by
          intro j oj hj hoj e he hb
          simp only [hset] at hj ⊢
          by_cases ej : j = i
          · subst ej
            rw [ho] at hoj; cases hoj
            by_cases e2 : e.on = j
            · rw [if_pos e2]
            · rw [if_neg e2]; exact hed' e he hb
          · rw [if_neg ej] at hj
            by_cases e2 : e.on = i
            · rw [if_pos e2]
            · rw [if_neg e2]; exact hcl j oj hj hoj e he hb
        have hU' : UL ol.length (fun j => (listed.setIfInBounds i true).getD j true) ≤ fuel := by
          have := UL_lt (L := fun j => listed.getD j true) (L' := fun j => (listed.setIfInBounds i true).getD j true) ol.length i hin hLi (by simp only [hset, if_true]) (fun j hj => by simp only [hset]; split; rfl; exact hj)
          omega
        have hEL' : ∀ t, EL ol.toArray l (fun j => (listed.setIfInBounds i true).getD j true) s.env ol.length t = updO (EL ol.toArray l (fun j => listed.getD j true) s.env ol.length) o.dst si.1 t := by
          intro t
          by_cases hd : o.dst = some t
          · rw [EL_stop (i := i + 1) ol.length (by omega) fun j oj h1 h2 hoj hdj => ?_]
            · rw [EL]; simp only [hset, if_true, ho, hs', hd, updO, upd_at]
            · have hji : j ≠ i := by omega
              simp only [hset, if_neg hji]
              cases hLj : listed.getD j true with
              | false => rfl
              | true =>
                have this : listed.getD i true = true := hcl.bf (drawOK_pair hok hoj ho (by omega) (.inl (clash_spec.2.2 hdj hd))) hLj
                rw [hLi] at this; cases this
          · rw [EL_congr (L' := fun j => listed.getD j true) ol.length fun j oj h1 hoj hdj => ?_]
            · cases hdd : o.dst with
              | none => rfl
              | some d => exact (upd_ne _ _ (fun he => hd (by rw [hdd, he]))).symm
            · have hji : j ≠ i := by intro e; subst e; rw [ho] at hoj; cases hoj; exact hd hdj
              simp only [hset, if_neg hji]
        have fin : ∀ H1, H1 = HL l (fun j => (listed.setIfInBounds i true).getD j true) s.H ol.length → ∀ (Ho : Heap), Ho = HL l (fun j => listed.getD j true) s.H ol.length → HLe Ho H1 →
            ∀ K' β' v w', KX C K1 K' → Agr Ho β1 β' → WS C K' β' H1 w' → DR K' β' true v si.1 → OkD H1 si.1 →
            wpAnyIn (FW C.rd) 0 P .any ol.toArray (AftX C N K β s.H Q) fuel (listed.setIfInBounds i true) (a.put o.dst v) w' := by
          intro H1 e1 Ho e2 hle K' β' v w' hx hβ hw' hv ho'
          subst e2
          have hold : SR C N K1 β1 ⟨EL ol.toArray l (fun j => listed.getD j true) s.env ol.length, HL l (fun j => listed.getD j true) s.H ol.length⟩ a w := ⟨hw, hN, hdf, hrd, hokd⟩
          have hnew := hold.put hx.le hβ hw' hle hv ho' hfit
          subst e1
          refine ih (listed.setIfInBounds i true) K' β' _ w' (by simp [hsz]) hU' hcl' (hK.trans ⟨hx, hβ, hle⟩) hw' hnew.size hnew.defers (fun t => ?_) fun t => ?_
          · rw [hEL']; exact hnew.rd t
          · rw [hEL']; exact hnew.ok t
        have hcs : ∀ (j : Nat) sj, l[j]? = some sj → (l.map fun s => s.2.1).getD j false = sj.2.1 := by
          intro j sj hj
          rw [List.getD_eq_getElem?_getD, List.getElem?_map, hj]; rfl
        cases hc : si.2.1 with
        | false =>
          have hHs' : Hs (HL l (fun j => listed.getD j true) s.H ol.length) := by
            rcases hHs with h | ⟨h1, h2⟩
            · exact h _
            · exact HL_all h1 h2 _
          have hsame : HL l (fun j => (listed.setIfInBounds i true).getD j true) s.H ol.length = HL l (fun j => listed.getD j true) s.H ol.length := by
            refine HL_congr ol.length fun j sj h1 hj hn => ?_
            have hji : j ≠ i := by intro e; subst e; rw [hs'] at hj; cases hj; rw [hc] at hn; cases hn
            simp only [hset, if_neg hji]
          refine (hP hc _ hHs').go o ho K1 β1 a w _ _ hw hN (fun t ht => ⟨by rw [← hread t ht]; exact hrd t, by rw [← hread t ht]; exact hokd t⟩) fun K' β' v w' hx hβ hw' hv ho' => ?_
          exact fin _ hsame.symm _ rfl (HLe.refl _) K' β' v w' hx hβ hw' hv ho'
        | true =>
          have hcur : HL l (fun j => listed.getD j true) s.H ol.length = HL l (fun _ => true) s.H i := by
            rw [HL_stop (i := i) ol.length (by omega) fun j sj h1 h2 hj hn => ?_]
            · refine HL_congr i fun j sj h1 hj hn => ?_
              refine hcl.ready ho hed' (drawOK_pair hok ho (y := ol[j]) (by simp) h1 (.inr ⟨by rw [hcs i si hs']; exact hc, by rw [hcs j sj hj]; exact hn⟩))
            · by_cases e : j = i
              · subst e; exact hLi
              · cases hLj : listed.getD j true with
                | false => rfl
                | true =>
                  have this : listed.getD i true = true := hcl.bf (drawOK_pair hok (x := ol[j]) (i := j) (by simp) ho (by omega) (.inr ⟨by rw [hcs j sj hj]; exact hn, by rw [hcs i si hs']; exact hc⟩)) hLj
                  rw [hLi] at this; cases this
          have hnext : HL l (fun j => (listed.setIfInBounds i true).getD j true) s.H ol.length = si.2.2 := by
            rw [HL_stop (i := i + 1) ol.length (by omega) fun j sj h1 h2 hj hn => ?_]
            · rw [HL]; simp only [hset, if_true, hs', hc]
            · have hji : j ≠ i := by omega
              simp only [hset, if_neg hji]
              cases hLj : listed.getD j true with
              | false => rfl
              | true =>
                have this : listed.getD i true = true := hcl.bf (drawOK_pair hok (x := ol[j]) (i := j) (by simp) ho (by omega) (.inr ⟨by rw [hcs j sj hj]; exact hn, by rw [hcs i si hs']; exact hc⟩)) hLj
                rw [hLi] at this; cases this
          have hStp := hM hc
          rw [← hcur] at hStp
          refine hStp.go o ho K1 β1 a w _ _ hw hN (fun t ht => ⟨by rw [← hread t ht]; exact hrd t, by rw [← hread t ht]; exact hokd t⟩) fun K' β' v w' hx hβ hw' hv ho' => ?_
          exact fin _ hnext.symm _ rfl hStp.len K' β' v w' hx hβ hw' hv ho'
  have hrep : ∀ j, (Array.replicate ol.toArray.size false).getD j true = (if j < ol.length then false else true) := by
    intro j
    rw [Array.getD_eq_getD_getElem?, Array.getElem?_replicate]
    simp only [List.size_toArray]
    split <;> rfl
  have hE0 : ∀ t, EL ol.toArray l (fun j => (Array.replicate ol.toArray.size false).getD j true) s.env ol.length t = s.env t := by
    intro t
    rw [EL_stop (i := 0) ol.length (by omega) fun j o _ h2 _ _ => by simp only [hrep, if_pos h2]]
    rfl
  have hH0 : HL l (fun j => (Array.replicate ol.toArray.size false).getD j true) s.H ol.length = s.H := by
    rw [HL_stop (i := 0) ol.length (by omega) fun j o _ h2 _ _ => by simp only [hrep, if_pos h2]]
    rfl
  have hd : ({ w with drawn := w.drawn + 1 } : World) = w.drew := rfl
  rw [hd]
  refine key ol.toArray.size _ K β a w.drew (by simp) (by simpa using UL_le _ _) ?_ (by rw [hH0]; exact Ext.refl _ _ _ _) (by rw [hH0]; exact hs.ws.drew) hs.size hs.defers (fun t => by rw [hE0]; exact hs.rd t) (fun t => by rw [hE0, hH0]; exact hs.ok t)
  intro i o hi ho
  simp only [hrep] at hi
  have : i < ol.length := by have := (Array.getElem?_eq_some_iff.1 ho).1; simpa using this
  rw [if_pos this] at hi; cases hi
end Go.DL
namespace Go.DL
open Go.RowKit

section
variable {P : Program} {C : Ctx} {N : Nat} {ops : Array Oper} {i : Nat} {env : Nat → D} {H H' : Heap} {o : Oper} {d : D}
theorem looks_op {a : Act} {K : Mem} {β : Nat → Nat → BT} (h : ∀ t ∈ o.looksAt ops, DR K β true (a.tmps.getD t undef) (env t) ∧ OkD H (env t)) : (∀ x ∈ o.op.operands, DR K β true (a.eval x) (ev env x)) ∧ (∀ x ∈ o.op.operands, OkD H (ev env x)) := by
  have hm : ∀ t, Operand.tmp t ∈ o.op.operands → t ∈ o.looksAt ops := fun t ht => List.mem_append_left _ (List.mem_filterMap.2 ⟨.tmp t, by simpa using ht, rfl⟩)
  refine ⟨fun x hx => ?_, fun x hx => ?_⟩
  · cases x with
    | tmp t => exact (h t (hm t hx)).1
    | const v => exact .v _ _
    | global g => exact .v _ _
    | func f => exact .v _ _
  · cases x with
    | tmp t => exact (h t (hm t hx)).2
    | const v => exact .v _
    | global g => exact .v _
    | func f => exact .v _
theorem Stp.op (ho : ops[i]? = some o) (hg : o.guard = none) (h : OpD P C o env H d H') : Stp P C N ops i env H d H' := by
  refine ⟨h.len, fun o' ho' K β a w Kc Q hw hN hx hn => ?_⟩
  rw [ho] at ho'; cases ho'
  obtain ⟨h1, h2⟩ := looks_op hx
  unfold wpOpIn
  simp only [ho, Region.wanted, hg, if_true]
  exact (h.go K β a w Kc Q hw h1 h2 hn)
theorem Stp.opg (b : Bool) (j : Nat) (want : Bool) (t : Nat) (ho : ops[i]? = some o) (hg : o.guard = some (j, want)) (ht : (ops[j]?).bind (·.dst) = some t) (hlt : Nat.blt t N = true) (hb : env t = .v (.bool b))
    (h : b = want → OpD P C o env H d H) : Stp P C N ops i env H (gd (b == want) d) H := by
  refine ⟨HLe.refl _, fun o' ho' K β a w Kc Q hw hN hx hn => ?_⟩
  rw [ho] at ho'; cases ho'
  obtain ⟨h1, h2⟩ := looks_op hx
  have htm : t ∈ o.looksAt ops := List.mem_append_right _ (by simp [hg, ht])
  have hy : yielded ops a.tmps j = some b := yielded_of ht (by rw [hN]; simpa [Nat.blt_eq] using hlt) (hb ▸ (hx t htm).1)
  unfold wpOpIn
  simp only [ho]
  have hw' : Region.wanted o (yielded ops a.tmps) = (b == want) := by
    simp only [Region.wanted, hg, hy]
    cases b <;> cases want <;> rfl
  rw [hw']
  cases hbw : (b == want) with
  | true =>
    simp only [if_true]
    rw [hbw] at hn
    exact ((h (by simpa using hbw)).go K β a w Kc Q hw h1 h2 hn)
  | false =>
    simp only [Bool.false_eq_true, if_false]
    rw [hbw] at hn
    exact ⟨fun _ _ => trivial, hn K β undef w (KX.refl _ _) (Agr.refl _ _) hw (.v _ _) (.v _)⟩
variable {Hs : Heap → Prop} {rest : List Oper} {l : List (D × Bool × Heap)} {env' : Nat → D} {H1 : Heap}
theorem Plan.op (ho : ops[i]? = some o) (hg : o.guard = none) (hf : fits N o = true) (h : ∀ H, Hs H → OpD P C o env H d H) (r : Plan P C N ops Hs (i + 1) rest (updO env o.dst d) H l env' H') : Plan P C N ops Hs i (o :: rest) env H ((d, false, H) :: l) env' H' :=
  .pure d hf (fun H hH => .op ho hg (h H hH)) r
theorem Plan.opg (b : Bool) (j : Nat) (want : Bool) (t : Nat) (ho : ops[i]? = some o) (hg : o.guard = some (j, want)) (ht : (ops[j]?).bind (·.dst) = some t) (hlt : Nat.blt t N = true) (hb : env t = .v (.bool b)) (hf : fits N o = true)
    (h : b = want → ∀ H, Hs H → OpD P C o env H d H) (r : Plan P C N ops Hs (i + 1) rest (updO env o.dst (gd (b == want) d)) H l env' H') : Plan P C N ops Hs i (o :: rest) env H ((gd (b == want) d, false, H) :: l) env' H' :=
  .pure _ hf (fun H hH => .opg b j want t ho hg ht hlt hb fun e => h e H hH) r
theorem Plan.opm (ho : ops[i]? = some o) (hg : o.guard = none) (hf : fits N o = true) (h : OpD P C o env H d H1) (r : Plan P C N ops Hs (i + 1) rest (updO env o.dst d) H1 l env' H') : Plan P C N ops Hs i (o :: rest) env H ((d, true, H1) :: l) env' H' :=
  .chg d H1 hf (.op ho hg h) r
end

/-! ### What a function hands back -/
/-! ### Numbers -/
abbrev U8 (x : BitVec 8) : D := .v (.int .u8 (x.toNat : Int))
abbrev I64 (n : Int) : D := .v (.int .i64 n)
section
variable {P : Program} {C : Ctx} {env : Nat → D} {H : Heap} {dst : Option Nat} {ty t t' : TypeId} {pos : String} {after : Array Edge} {gu : Option (Nat × Bool)} {X Y : Operand}
theorem eqGuard_int (op : BinOp) (k k' : IntKind) (m n : Int) : eqGuard op t X Y (.int k m) (.int k' n) = .pure () := by cases op <;> rfl
/-- An operation on two integers. -/
theorem o_bin {op : BinOp} {k k' : IntKind} {m n : Int} (r : Value) (hx : ev env X = .v (.int k m)) (hy : ev env Y = .v (.int k' n)) (hr : binOp op t (.int k m) (.int k' n) = .pure r) : OpD P C ⟨dst, .binOp op t X Y t', ty, pos, after, gu⟩ env H (.v r) H := by
  refine OpD.same fun K β a w _ h _ => ⟨r, ?_, .v _ _, .v _⟩
  have h1 := h X (by simp [Op.operands])
  have h2 := h Y (by simp [Op.operands])
  rw [hx] at h1; rw [hy] at h2
  simp [execOp, h1.v_inv, h2.v_inv, eqGuard_int, hr]
theorem v_int {k : IntKind} {m n : Int} (h : m = n) : D.v (.int k m) = .v (.int k n) := by rw [h]
theorem v_bool {m n : Bool} (h : m = n) : D.v (.bool m) = .v (.bool n) := by rw [h]
end
end Go.DL
namespace Go.DL
open Go.RowKit

section
variable {P : Program} {C : Ctx} {env : Nat → D} {H : Heap} {dst : Option Nat} {ty t t' e : TypeId} {pos : String} {after : Array Edge} {gu : Option (Nat × Bool)} {X Y Z : Operand}
theorem w64 {n : Int} (h1 : -9223372036854775808 ≤ n) (h2 : n ≤ 9223372036854775807) : IntKind.i64.wrap n = n := by rw [IntKind.wrap_i64]; omega
theorem o_add {a b : Int} (hx : ev env X = I64 a) (hy : ev env Y = I64 b) (h1 : -9223372036854775808 ≤ a + b) (h2 : a + b ≤ 9223372036854775807) : OpD P C ⟨dst, .binOp .add t X Y t', ty, pos, after, gu⟩ env H (I64 (a + b)) H :=
  (o_bin (.int .i64 (IntKind.i64.wrap (a + b))) hx hy rfl).cast (v_int (w64 h1 h2))
theorem o_sub {a b : Int} (hx : ev env X = I64 a) (hy : ev env Y = I64 b) (h1 : -9223372036854775808 ≤ a - b) (h2 : a - b ≤ 9223372036854775807) : OpD P C ⟨dst, .binOp .sub t X Y t', ty, pos, after, gu⟩ env H (I64 (a - b)) H :=
  (o_bin (.int .i64 (IntKind.i64.wrap (a - b))) hx hy rfl).cast (v_int (w64 h1 h2))
theorem o_quo {a b : Int} (hx : ev env X = I64 a) (hy : ev env Y = I64 b) (h0 : 0 ≤ a) (h1 : 0 < b) (h2 : a ≤ 9223372036854775807) : OpD P C ⟨dst, .binOp .quo t X Y t', ty, pos, after, gu⟩ env H (I64 (a / b)) H :=
  (o_bin (.int .i64 (IntKind.i64.wrap (a.tdiv b))) hx hy (by show Op.intDiv .quo .i64 a b = _; unfold Op.intDiv; rw [if_neg (by omega)]; rfl)).cast (v_int (by
    rw [Int.tdiv_eq_ediv_of_nonneg h0, w64 _ _]
    · have := Int.ediv_nonneg h0 (Int.le_of_lt h1); omega
    · have := Int.ediv_le_self b h0; omega))
theorem eqGuard_bool (op : BinOp) (a b : Bool) : eqGuard op t X Y (.bool a) (.bool b) = .pure () := by cases op <;> rfl
/-- '==' and '!=' on Bools. -/
theorem o_eqb {a b : Bool} (hx : ev env X = .v (.bool a)) (hy : ev env Y = .v (.bool b)) (ht : P.underlying t = some .bool) : OpD P C ⟨dst, .binOp .eql t X Y t', ty, pos, after, gu⟩ env H (.v (.bool (a == b))) H := by
  refine OpD.same fun K β ac w _ h _ => ⟨_, ?_, .v _ _, .v _⟩
  have h1 := h X (by simp [Op.operands])
  have h2 := h Y (by simp [Op.operands])
  rw [hx] at h1; rw [hy] at h2
  have e : (binOp .eql t (.bool a) (.bool b)).run P w = .ok (.bool (a == b)) w := by
    show ((Op.equal t (.bool a) (.bool b)) >>= fun r => Pure.pure (Value.bool r)).run P w = _
    rw [Sem.run_bind, run_equal_bool w t a b ht]; rfl
  simp only [execOp, h1.v_inv, h2.v_inv, eqGuard_bool, Sem.run_bind, Sem.run_pure', e, Result.andThen_ok, Sem.run_pure]
theorem o_neb {a b : Bool} (hx : ev env X = .v (.bool a)) (hy : ev env Y = .v (.bool b)) (ht : P.underlying t = some .bool) : OpD P C ⟨dst, .binOp .neq t X Y t', ty, pos, after, gu⟩ env H (.v (.bool (a != b))) H := by
  refine OpD.same fun K β ac w _ h _ => ⟨_, ?_, .v _ _, .v _⟩
  have h1 := h X (by simp [Op.operands])
  have h2 := h Y (by simp [Op.operands])
  rw [hx] at h1; rw [hy] at h2
  have e : (binOp .neq t (.bool a) (.bool b)).run P w = .ok (.bool (a != b)) w := by
    show ((Op.equal t (.bool a) (.bool b)) >>= fun r => Pure.pure (Value.bool !r)).run P w = _
    rw [Sem.run_bind, run_equal_bool w t a b ht]; rfl
  simp only [execOp, h1.v_inv, h2.v_inv, eqGuard_bool, Sem.run_bind, Sem.run_pure', e, Result.andThen_ok, Sem.run_pure]
/-! ### Cuts of slices -/
theorem run_cut {w : World} {A : Option Addr} {n c lo hi sz : Nat} {l h : Option Value} (ht : P.underlying t = some (.slice e)) (hi' : (P.info? e).map (·.size) = some sz)
    (hl : (l = none ∧ lo = 0) ∨ ∃ k, l = some (.int k (lo : Int))) (hh : (h = none ∧ hi = n) ∨ ∃ k, h = some (.int k (hi : Int))) (h1 : lo ≤ hi) (h2 : hi ≤ c) :
    (Instr.sliceAt t (.slice A n c) l h none).run P w = .ok (.slice (if c = lo then A else A.map (·.add (lo * sz))) (hi - lo) (c - lo)) w := by
  obtain ⟨inf, hi1, hi2⟩ := Option.map_eq_some_iff.1 hi'
  rcases hl with ⟨rfl, rfl⟩ | ⟨k, rfl⟩ <;> rcases hh with ⟨rfl, rfl⟩ | ⟨k', rfl⟩
  all_goals
    simp [Instr.sliceAt, run_underlying ht, Instr.slice, Instr.sliceBounds, Instr.sliceBound, asIntOf, sizeOf, typeInfo, hi1, hi2, h1, h2]
/-- A bound of a cut. -/
def bnd (env : Nat → D) (lo : Nat) : Option Operand → Prop
  | none => lo = 0
  | some y => ∃ k, ev env y = .v (.int k (lo : Int))
def bndH (env : Nat → D) (n hi : Nat) : Option Operand → Prop
  | none => hi = n
  | some y => ∃ k, ev env y = .v (.int k (hi : Int))
theorem o_cut_rd {n sz lo hi : Nat} {cs cs' : List D} {yl yh : Option Operand} (hx : ev env X = .rd n cs) (hl : bnd env lo yl) (hh : bndH env n hi yh) (ht : P.underlying t = some (.slice e)) (hi' : (P.info? e).map (·.size) = some sz) (h1 : lo ≤ hi) (h2 : hi ≤ n)
    (hcs : (cs.drop (lo * sz)).take ((hi - lo) * sz) = cs') : OpD P C ⟨dst, .slice t X yl yh none, ty, pos, after, gu⟩ env H (.rd (hi - lo) cs') H := by
  subst hcs
  refine OpD.same fun K β ac w _ h _ => ?_
  have h0 := h X (by simp [Op.operands])
  rw [hx] at h0
  obtain ⟨A, c, us, e1, hn, hlen, hc, hd⟩ := h0.rd_inv
  have el : (yl.map ac.eval = none ∧ lo = 0) ∨ ∃ k, yl.map ac.eval = some (.int k (lo : Int)) := by
    cases yl with
    | none => exact .inl ⟨rfl, hl⟩
    | some y =>
      obtain ⟨k, hk⟩ := hl
      have := h y (by simp [Op.operands])
      rw [hk] at this
      exact .inr ⟨k, by simp [this.v_inv]⟩
  have eh : (yh.map ac.eval = none ∧ hi = n) ∨ ∃ k, yh.map ac.eval = some (.int k (hi : Int)) := by
    cases yh with
    | none => exact .inl ⟨rfl, hh⟩
    | some y =>
      obtain ⟨k, hk⟩ := hh
      have := h y (by simp [Op.operands])
      rw [hk] at this
      exact .inr ⟨k, by simp [this.v_inv]⟩
  refine ⟨.slice (if c = lo then A else A.map (·.add (lo * sz))) (hi - lo) (c - lo), ?_, .rd _ _ _ _ ((us.drop (lo * sz)).take ((hi - lo) * sz)) _ (by omega) (by simp [hlen]) (fun j u hu => ?_) (fun j u d hu hd' => ?_), .rd _ _⟩
  · simp only [execOp, e1, Option.map_none, Sem.run_bind, run_cut (w := w) (A := A) (c := c) ht hi' el eh h1 (by omega), Result.andThen_ok, Sem.run_pure]
  · rw [List.getElem?_take] at hu
    split at hu
    · rename_i hj
      rw [List.getElem?_drop] at hu
      obtain ⟨ad, rfl, hk⟩ := hc _ u hu
      have : ¬ c = lo := by
        intro e; subst e
        have : hi - c = 0 := by omega
        rw [this] at hj; simp at hj
      rw [if_neg this]
      exact ⟨_, rfl, by rw [add_add]; exact hk⟩
    · cases hu
  · rw [List.getElem?_take] at hu hd'
    split at hu
    · rw [if_pos (by assumption)] at hd'
      rw [List.getElem?_drop] at hu hd'
      exact hd _ u d hu hd'
    · cases hu
/-! ### Bytes -/
def bytesD (l : List UInt8) : List D := l.map fun b => U8 b.toBitVec
theorem bytesD_len (l : List UInt8) : (bytesD l).length = l.length := by simp [bytesD]
abbrev strB (l : List UInt8) : ByteArray := ⟨l.toArray⟩
end

/-! ### Appends -/
section
variable {P : Program} {w : World}
theorem run_append_nil (base : Nat) (t ty e : TypeId) (i : TypeInfo) (size : Nat) (ht : P.underlying t = some (.slice e)) (hi : P.info? e = some i)
    (v : Value) (n : Nat) (xs : List Value) (hown : w.ownsRow base e size v n xs) (c : Nat) : (Builtin.append_ #[t, t] ty #[v, .slice none 0 c]).run P w = .ok v w := by
  rcases hown.2 with ⟨rfl, rfl⟩ | ⟨g, cap, cur, rfl, _, _, hnc, _⟩
  · simp [Builtin.append_, run_underlying ht, sizeOf, typeInfo, hi, Builtin.lenOf, Builtin.firstCells]
  · simp [Builtin.append_, run_underlying ht, sizeOf, typeInfo, hi, Builtin.lenOf, Builtin.firstCells, hnc, storeCells]
theorem run_append_any (base : Nat) (t ty e : TypeId) (i : TypeInfo) (z : Value) (size bytes : Nat) (ht : P.underlying t = some (.slice e)) (hi : P.info? e = some i) (hz : i.zero = some z)
    (hsize : i.size = size) (hby : i.bytes = bytes) (hzs : z.cells.size = size) (hsz : 0 < size)
    (v : Value) (n : Nat) (xs : List Value) (hown : w.ownsRow base e size v n xs)
    (A : Option Addr) (m c : Nat) (news : List Value) (hr : news.length = m * size) (hcell : ∀ (j : Nat) u, news[j]? = some u → ∃ ad, A = some ad ∧ w.cell? (ad.add j) = some u) (h1 : ∀ u ∈ news, u.oneCell' = true)
    (h63 : n + m ≤ maxLen) (hbytes : (n + m) * bytes ≤ 140737488355328) (hbase : base ≤ w.heap.size) :
    ∃ v' w', (Builtin.append_ #[t, t] ty #[v, .slice A m c]).run P w = .ok v' w' ∧ w'.ownsRow base e size v' (n + m) (xs ++ news) ∧ w.grownBy w' v.ownBlock ∧
      (v'.ownBlock = v.ownBlock ∨ v'.ownBlock = some w.heap.size) := by
  rcases A with _ | ad
  · have hn : news = [] := by
      cases news with
      | nil => rfl
      | cons u l => obtain ⟨ad, h, _⟩ := hcell 0 u rfl; cases h
    subst hn
    have hm : m = 0 := by
      rcases Nat.eq_zero_or_pos m with h0 | h0
      · exact h0
      · have h2 : m * size = 0 := by simpa using hr.symm
        rcases Nat.mul_eq_zero.1 h2 with h | h <;> omega
    subst hm
    exact ⟨v, w, run_append_nil base t ty e i size ht hi v n xs hown c, by simpa using hown, World.grownBy.refl w _, .inl rfl⟩
  · obtain ⟨v', w', hrun, h2, h3, _, h5⟩ := run_append_own_at (P := P) w base t ty e i z size bytes ht hi hz hsize hby hzs hsz v n xs hown ad m c news hr (fun j u hu => by
      obtain ⟨ad', e', h⟩ := hcell j u hu
      cases e'; exact h) h1 h63 hbytes hbase
    exact ⟨v', w', hrun, h2, h3, h5⟩
end
end Go.DL
namespace Go.DL
open Go.RowKit

theorem addB_agr' {β : Nat → Nat → BT} {H : Heap} {id v' : Nat} {b : Blk} {t : BT} (hb : H[id]? = some (some b)) (hv' : b.ver < v') : Agr H β (addB β id v' t) := fun i u h => by
  refine addB_ne ?_
  by_cases e : i = id
  · subst e
    unfold okV at h
    rw [hb] at h
    exact .inr (by have : u ≤ b.ver := h; omega)
  · exact .inl e
/-- A row of the call's own has grown: it lies where it lay, or in a new block; or it is nil as_ yet. -/
theorem WS.grow {C : Ctx} {K : Mem} {β : Nat → Nat → BT} {H : Heap} {w w' : World} (h : WS C K β H w) {id v' : Nat} {b : Blk} (hb : H[id]? = some (some b)) (hv' : b.ver < v') {row : Option Nat} (hg : w.grownBy w' row)
    (hrow : ∀ k, row = some k → (β id b.ver).real = true ∧ k = (β id b.ver).blk) (cs' : List D) (t : BT)
    (ht : t.st = .none ∧ cs' = [] ∨ (t.st = .cells ∧ (row = some t.blk ∨ t.blk = w.heap.size) ∧ ∃ us rest : List Value, w'.heap[t.blk]? = some (.cells (us ++ rest).toArray b.e (0, 0)) ∧ us.length = cs'.length ∧ us.length + rest.length = t.tot ∧
      ∀ (j : Nat) u d, us[j]? = some u → cs'[j]? = some d → DR K β true u d)) (ho : ∀ c ∈ cs', OkD H c) :
    WS C K (addB β id (v') t) (H.set id (some ⟨cs', b.e, true, v'⟩)) w' := by
  have hid : id < H.length := (List.getElem?_eq_some_iff.1 hb).1
  have hag := addB_agr' (β := β) (t := t) hb hv'
  have hle : HLe H (H.set id (some ⟨cs', b.e, true, v'⟩)) := HLe.set hb (Nat.le_of_lt hv')
  have split : ∀ {i : Nat} {x : Blk}, (H.set id (some ⟨cs', b.e, true, v'⟩))[i]? = some (some x) → (i = id ∧ x = ⟨cs', b.e, true, v'⟩) ∨ (i ≠ id ∧ H[i]? = some (some x)) := by
    intro i x hx
    rw [List.getElem?_set] at hx
    by_cases e : id = i
    · rw [if_pos e, if_pos hid] at hx; simp at hx; exact .inl ⟨e.symm, hx.symm⟩
    · rw [if_neg e] at hx; exact .inr ⟨Ne.symm e, hx⟩
  have hne : ∀ {i : Nat} {v : Nat}, i ≠ id → addB β id (v') t i v = β i v := fun hi => addB_ne (.inl hi)
  have hat : addB β id (v') t id (v') = t := addB_at
  have hstay : ∀ {i : Nat} {x : Blk}, i ≠ id → H[i]? = some (some x) → (β i x.ver).real = true → w'.heap[(β i x.ver).blk]? = w.heap[(β i x.ver).blk]? := by
    intro i x hi hx hr
    refine hg.block _ (h.lt hx hr) fun e => ?_
    obtain ⟨h1, h2⟩ := hrow _ e.symm
    exact hi (h.inj _ _ _ _ hx hb hr h1 h2)
  have hnewne : ∀ {i : Nat} {x : Blk}, i ≠ id → H[i]? = some (some x) → (β i x.ver).real = true → t.real = true → (β i x.ver).blk ≠ t.blk := by
    intro i x hi hx hr htr e
    rcases ht with ⟨h0, _⟩ | ⟨_, h1, _⟩
    · rw [BT.real_none h0] at htr; cases htr
    · rcases h1 with h1 | h1
      · obtain ⟨h2, h3⟩ := hrow _ h1
        exact hi (h.inj _ _ _ _ hx hb hr h2 (e.trans h3))
      · have := h.lt hx hr; omega
  refine ⟨fun b' c hc => ?_, fun i x hx => ?_, fun i x hx c hc => ?_, fun i j x y hx hy hri hrj he => ?_, fun i x hx hr => ?_, fun i x hx hr => ?_, Nat.le_trans h.size hg.size, ?_, h.agr.up h.hle hag, h.hle.trans hle, h.kle⟩
  · have hh := h.holds b' c hc
    rw [hg.block _ (h.klt hc) fun e => ?_]
    · exact hh
    · obtain ⟨h1, h2⟩ := hrow _ e.symm
      rw [h2, h.apart id b hb h1] at hc; cases hc
  · rcases split hx with ⟨rfl, rfl⟩ | ⟨hi, hx⟩
    · rw [hat]
      unfold BlkR
      rcases ht with ⟨h0, h1⟩ | ⟨h0, _, us, rest, e, hl, htot, hd⟩
      · simp only [h0]; exact h1
      · simp only [h0]
        exact ⟨us, rest, e, hl, htot, (fun h => by simp at h), fun j u d hu hd' => (hd j u d hu hd').mono (Mem.le.refl K) (fun _ => ho d (List.mem_of_getElem? hd')) hag⟩
    · rw [hne hi]
      exact ((h.blk i x hx).mono (Mem.le.refl K) (h.ok i x hx) hag).other fun hr => hstay hi hx hr
  · rcases split hx with ⟨rfl, rfl⟩ | ⟨hi, hx⟩
    · exact (ho c hc).mono hle
    · exact (h.ok i x hx c hc).mono hle
  · rcases split hx with ⟨rfl, rfl⟩ | ⟨hi, hx1⟩ <;> rcases split hy with ⟨hj, rfl⟩ | ⟨hj, hy1⟩
    · exact hj.symm
    · rw [hat] at hri he
      rw [hne hj] at hrj he
      exact absurd he.symm (hnewne hj hy1 hrj hri)
    · subst hj
      rw [hat] at hrj he
      rw [hne hi] at hri he
      exact absurd he (hnewne hi hx1 hri hrj)
    · rw [hne hi] at hri he
      rw [hne hj] at hrj he
      exact h.inj i j x y hx1 hy1 hri hrj he
  · rcases split hx with ⟨rfl, rfl⟩ | ⟨hi, hx⟩
    · rw [hat] at hr ⊢
      rcases ht with ⟨h0, _⟩ | ⟨_, h1, _⟩
      · rw [BT.real_none h0] at hr; cases hr
      · rcases h1 with h1 | h1
        · obtain ⟨h2, h3⟩ := hrow _ h1
          rw [h3]; exact h.apart _ b hb h2
        · rw [h1]; exact h.fresh
    · rw [hne hi] at hr ⊢; exact h.apart i x hx hr
  · rcases split hx with ⟨rfl, rfl⟩ | ⟨hi, hx⟩
    · rw [hat] at hr ⊢
      rcases ht with ⟨h0, _⟩ | ⟨_, h1, _⟩
      · rw [BT.real_none h0] at hr; cases hr
      · rcases h1 with h1 | h1
        · obtain ⟨h2, h3⟩ := hrow _ h1
          rw [h3]; exact h.base _ b hb h2
        · rw [h1]; exact .inl h.size
    · rw [hne hi] at hr ⊢; exact h.base i x hx hr
  · exact h.below.grown hg h.size fun k hk => by
      obtain ⟨h1, h2⟩ := hrow k hk
      rw [h2]; exact h.base id b hb h1

/-- The element type of a slice type: so many cells, so many bytes. -/
structure Elem (P : Program) (t e : TypeId) (sz bytes : Nat) : Prop where
  ut : P.underlying t = some (.slice e)
  inf : ∃ i z, P.info? e = some i ∧ i.zero = some z ∧ i.size = sz ∧ i.bytes = bytes ∧ z.cells.size = sz
  pos : 0 < sz
theorem Elem.of {P : Program} {t e : TypeId} {sz bytes : Nat} {z : Value} (ut : P.underlying t = some (.slice e)) (hi : (P.info? e).map (fun i => (i.zero, i.size, i.bytes)) = some (some z, sz, bytes)) (hz : z.cells.size = sz) (hp : 0 < sz) : Elem P t e sz bytes := by
  obtain ⟨i, h1, h2, h3, h4⟩ := info_parts hi
  exact ⟨ut, ⟨i, z, h1, h2, h3, h4, hz⟩, hp⟩
section
variable {P : Program} {C : Ctx} {env : Nat → D} {H : Heap} {dst : Option Nat} {ty t t' e : TypeId} {pos : String} {after : Array Edge} {gu : Option (Nat × Bool)} {X Y Z : Operand}
/-- What an append onto a row of the call's own makes, whatever is appended. -/
theorem append_core {v' : Nat} {K : Mem} {β : Nat → Nat → BT} {w : World} {id ver n sz bytes m : Nat} {b : Blk} {cs' : List D} {v : Value} (E : Elem P t e sz bytes) (hw : WS C K β H w) (hv : DR K β true v (.own id ver 0 n sz)) (hb : H[id]? = some (some b)) (hver : b.ver = ver) (he : b.e = e) (hv' : ver < v') (hn : n * sz ≤ b.cs.length)
    (A : Option Addr) (c : Nat) (news : List Value) (hl : news.length = m * sz) (hcell : ∀ (j : Nat) u, news[j]? = some u → ∃ ad, A = some ad ∧ w.cell? (ad.add j) = some u) (h1 : ∀ u ∈ news, u.oneCell' = true)
    (hds : news.length = cs'.length) (hdr : ∀ (j : Nat) u d, news[j]? = some u → cs'[j]? = some d → DR K β true u d) (hok : ∀ d ∈ cs', OkD H d) (h63 : n + m ≤ maxLen) (hby : (n + m) * bytes ≤ 140737488355328) :
    ∃ u' w' t', (Builtin.append_ #[t, t] ty #[v, .slice A m c]).run P w = .ok u' w' ∧ WS C K (addB β id v' t') (H.set id (some ⟨b.cs.take (n * sz) ++ cs', e, true, v'⟩)) w' ∧ DR K (addB β id v' t') true u' (.own id v' 0 (n + m) sz) := by
  subst hver he
  obtain ⟨i, z, hi, hz, hsz, hbs, hzs⟩ := E.inf
  have hrows : ∃ xs : List Value, w.ownsRow 0 b.e sz v n xs ∧ xs.length = n * sz ∧ (∀ (j : Nat) u d, xs[j]? = some u → (b.cs.take (n * sz))[j]? = some d → DR K β true u d) ∧ (∀ k, v.ownBlock = some k → (β id b.ver).real = true ∧ k = (β id b.ver).blk) := by
    rcases hv.own_inv with ⟨c, rfl, hnc, hm, htot, hr⟩ | ⟨rfl, _, h0, hr⟩
    · obtain ⟨us, rest, hh, hlen, htot', _, hd⟩ := hw.real hb hr
      refine ⟨us.take (n * sz), ⟨by rw [List.length_take]; omega, .inr ⟨_, c, _, rfl, Nat.zero_le _, hh, hnc, hm, by simp; omega, ?_⟩⟩, by rw [List.length_take]; omega, fun j u d hu hd' => ?_, fun k hk => ?_⟩
      · simp only []
        rw [List.take_append_of_le_length (by omega)]
      · rw [List.getElem?_take] at hu hd'
        split at hu
        · rw [if_pos (by assumption)] at hd'; exact hd j u d hu hd'
        · cases hu
      · simp [Value.ownBlock] at hk; exact ⟨BT.real_of hr, hk.symm⟩
    · subst h0
      exact ⟨[], ⟨by simp, .inl ⟨rfl, rfl⟩⟩, by simp, by simp, fun k hk => by simp [Value.ownBlock] at hk⟩
  obtain ⟨xs, hown, hxl, hxd, hblk⟩ := hrows
  obtain ⟨u', w', hrun, hown', hgrow, hat⟩ := run_append_any (P := P) (w := w) 0 t ty b.e i z sz bytes E.ut hi hz hsz hbs hzs E.pos v n xs hown A m c news hl hcell h1 h63 hby (Nat.zero_le _)
  have hcells : (xs ++ news).length = (b.cs.take (n * sz) ++ cs').length := by rw [List.length_append, List.length_append, List.length_take]; omega
  have hcd : ∀ (j : Nat) u d, (xs ++ news)[j]? = some u → (b.cs.take (n * sz) ++ cs')[j]? = some d → DR K β true u d := by
    intro j u d hu hd
    have hlt : (b.cs.take (n * sz)).length = n * sz := by rw [List.length_take]; omega
    by_cases hj : j < n * sz
    · rw [List.getElem?_append_left (by omega)] at hu hd; exact hxd j u d hu hd
    · rw [List.getElem?_append_right (by omega), hxl] at hu
      rw [List.getElem?_append_right (by omega), hlt] at hd
      exact hdr _ u d hu hd
  have hoc : ∀ d ∈ b.cs.take (n * sz) ++ cs', OkD H d := by
    intro d hd
    rcases List.mem_append.1 hd with hd | hd
    · exact hw.ok id b hb d (List.mem_of_mem_take hd)
    · exact hok d hd
  rcases hown'.2 with ⟨rfl, h0⟩ | ⟨g, cap, cur, rfl, hBg, hheap, hncap, hmax, hcur, htake⟩
  · have hn0 : n = 0 := by omega
    have hm0 : m = 0 := by omega
    subst hn0 hm0
    have hcs0 : cs' = [] := List.eq_nil_of_length_eq_zero (by rw [← hds, hl]; simp)
    subst hcs0
    refine ⟨_, w', ⟨0, 0, .none⟩, hrun, ?_, ?_⟩
    · exact hw.grow hb hv' hgrow hblk _ ⟨0, 0, .none⟩ (.inl ⟨rfl, by simp⟩) hoc
    · exact .own0 _ _ _ (by rw [addB_at])
  · refine ⟨_, w', ⟨g, cap * sz, .cells⟩, hrun, ?_, ?_⟩
    · refine hw.grow hb hv' hgrow hblk _ ⟨g, cap * sz, .cells⟩ (.inr ⟨rfl, ?_, xs ++ news, cur.toList.drop ((n + m) * sz), ?_, hcells, ?_, hcd⟩) hoc
      · rcases hat with h | h
        · exact .inl (by rw [← h]; rfl)
        · simp [Value.ownBlock] at h; exact .inr h
      · rw [hheap, ← htake, List.take_append_drop]
      · have h5 : (n + m) * sz ≤ cap * sz := Nat.mul_le_mul_right _ hncap
        rw [← htake, List.length_take, List.length_drop, Array.length_toList, hcur]
        show min ((n + m) * sz) (cap * sz) + (cap * sz - (n + m) * sz) = cap * sz
        generalize (n + m) * sz = p at *
        generalize cap * sz = q at *
        omega
    · have := DR.own (K := K) (β := addB β id (v') ⟨g, cap * sz, .cells⟩) id (v') 0 (n + m) sz cap hncap hmax (by rw [addB_at]; simp) (by rw [addB_at])
      rw [addB_at] at this; exact this
/-- An append of a slice that stays. -/
theorem o_append_rdv (v' : Nat) {id ver n sz bytes m : Nat} {b : Blk} {cs' : List D} (E : Elem P t e sz bytes) (hx : ev env X = .own id ver 0 n sz) (hy : ev env Y = .rd m cs') (hb : H[id]? = some (some b)) (hver : b.ver = ver) (he : b.e = e) (hv' : ver < v') (hn : n * sz ≤ b.cs.length) (hm : cs'.length = m * sz) (h1 : ∀ d ∈ cs', oneD d = true)
    (h63 : n + m ≤ 9223372036854775807) (hby : (n + m) * bytes ≤ 140737488355328) :
    OpD P C ⟨dst, .call { callee := .builtin .append, args := #[X, Y], argTypes := #[t, t] }, ty, pos, after, gu⟩ env H (.own id v' 0 (n + m) sz) (H.set id (some ⟨b.cs.take (n * sz) ++ cs', e, true, v'⟩)) := by
  have hle : HLe H (H.set id (some ⟨b.cs.take (n * sz) ++ cs', e, true, v'⟩)) := HLe.set hb (by simp; omega)
  refine OpD.of hle fun K β ac w hw h hk => ?_
  have hxv := h X (by simp [Op.operands, Call.operands])
  have hyv := h Y (by simp [Op.operands, Call.operands])
  rw [hx] at hxv; rw [hy] at hyv
  obtain ⟨A, c, us, e1, hmc, hlen, hc, hd⟩ := hyv.rd_inv
  obtain ⟨u', w', t', hrun, hws, hdr⟩ := append_core (P := P) (ty := ty) (cs' := cs') E hw hxv hb hver he hv' hn A c us (by omega) (fun j u hu => let ⟨ad, h1, h2⟩ := hc j u hu; ⟨ad, h1, hw.cell h2⟩) (fun u hu => by
      obtain ⟨j, hj⟩ := List.getElem?_of_mem hu
      have hlt : j < cs'.length := by rw [← hlen]; exact (List.getElem?_eq_some_iff.1 hj).1
      exact oneD.val (hd j u _ hj (List.getElem?_eq_getElem hlt)) (h1 _ (List.getElem_mem hlt))) hlen (fun j u d hu hd' => (hd j u d hu hd').up rfl)
      (fun d hd' => by
        obtain ⟨j, hj⟩ := List.getElem?_of_mem hd'
        have hlt : j < us.length := by rw [hlen]; exact (List.getElem?_eq_some_iff.1 hj).1
        exact (hd j _ d (List.getElem?_eq_getElem hlt) hj).okp rfl) h63 hby
  subst hver
  refine ⟨K, _, u', w', ?_, KX.refl _ _, addB_agr' hb hv', hws, hdr, .own _ _ _ _ _ ?_⟩
  · rw [← e1] at hrun
    simp only [execOp, resolve, invoke, builtin, Sem.run_bind, Sem.run_pure, Result.andThen_ok, List.map_toArray, List.map_cons, List.map_nil, hrun]
  · unfold okV
    rw [List.getElem?_set, if_pos rfl, if_pos (List.getElem?_eq_some_iff.1 hb).1]
    exact Nat.le_refl _
end
end Go.DL
namespace Go.DL
open Go.RowKit

/-! ### Slices written out -/
theorem foldl_set (off : Nat) : ∀ (vs : List Value) (k : Nat) (cs : Array Value), off + k + vs.length ≤ cs.size →
    ((vs.zipIdx k).foldl (fun cs p => cs.setIfInBounds (off + p.2) p.1) cs).toList = spl cs.toList (off + k) vs
  | [], k, cs, _ => by simp [spl]
  | v :: vs, k, cs, h => by
    rw [List.zipIdx_cons, List.foldl_cons, foldl_set off vs (k + 1) _ (by simp at h ⊢; omega)]
    simp at h
    apply List.ext_getElem?
    intro j
    rw [spl_get (by simp; omega), spl_get (by simp; omega)]
    simp only [Array.toList_setIfInBounds, List.getElem?_set, Array.length_toList]
    by_cases h1 : j < off + k
    · rw [if_pos (by omega), if_pos h1, if_neg (by omega)]
    · rw [if_neg h1]
      by_cases h2 : j = off + k
      · subst h2
        rw [if_pos (by omega), if_pos rfl, if_pos (by omega), if_pos (by simp)]
        simp
      · rw [if_neg (show ¬ j < off + (k + 1) by omega)]
        by_cases h3 : j < off + k + (v :: vs).length
        · rw [if_pos h3, if_pos (by simp at h3; omega)]
          have : j - (off + k) = (j - (off + (k + 1))) + 1 := by omega
          rw [this, List.getElem?_cons_succ]
        · rw [if_neg h3, if_neg (by simp at h3; omega), if_neg (by omega)]
theorem fill_run (sz : Nat) : ∀ (ps : List (Nat × Value)) (cs : Array Value), (∀ p ∈ ps, p.2.cells.size = sz ∧ p.1 * sz + sz ≤ cs.size) →
    ∃ r : Array Value, Instr.fill (fun i => some (i * sz, sz)) cs ps = some r ∧ r.toList = ps.foldl (fun c p => spl c (p.1 * sz) p.2.cells.toList) cs.toList
  | [], cs, _ => ⟨cs, rfl, rfl⟩
  | (i, v) :: ps, cs, h => by
    obtain ⟨h1, h2⟩ := h (i, v) (by simp)
    simp only at h1 h2
    have hset := foldl_set (i * sz) v.cells.toList 0 cs (by simp; omega)
    obtain ⟨r, e1, e2⟩ := fill_run sz ps (v.cells.zipIdx.foldl (fun cs (c, j) => cs.setIfInBounds (i * sz + j) c) cs) (fun p hp => by
      obtain ⟨h3, h4⟩ := h p (by simp [hp])
      refine ⟨h3, ?_⟩
      have : (v.cells.zipIdx.foldl (fun cs (c, j) => cs.setIfInBounds (i * sz + j) c) cs).size = cs.size := by
        rw [← Array.foldl_toList, Array.toList_zipIdx, ← Array.length_toList, hset, spl_length (by simp; omega), Array.length_toList]
      rw [this]; exact h4)
    refine ⟨r, ?_, ?_⟩
    · unfold Instr.fill
      simp only [h1]
      rw [if_neg (by simp; omega)]
      exact e1
    · rw [e2, List.foldl_cons, ← Array.foldl_toList, Array.toList_zipIdx, hset]
      simp
/-- The cells of a slice before its elements are laid. -/
def zeros (zv : Value) (n sz : Nat) : List Value := (List.range n).map fun j => zv.cells.toList.getD (j % sz) undef
section
variable {P : Program} {C : Ctx} {env : Nat → D} {H : Heap} {dst : Option Nat} {ty t t' e : TypeId} {pos : String} {after : Array Edge} {gu : Option (Nat × Bool)} {X Y Z : Operand}
theorem lit_core {K : Mem} {β : Nat → Nat → BT} {a : Act} (sz : Nat) : ∀ (ps : List (Nat × Operand)) (cv : List Value) (cd : List D), cv.length = cd.length → (∀ (j : Nat) u d, cv[j]? = some u → cd[j]? = some d → DR K β true u d) → (∀ d ∈ cd, OkD H d) →
    (∀ p ∈ ps, ((cellsD (ev env p.2)).all oneD) = true ∧ (cellsD (ev env p.2)).length = sz ∧ p.1 * sz + sz ≤ cd.length ∧ DR K β true (a.eval p.2) (ev env p.2) ∧ OkD H (ev env p.2)) →
    (ps.foldl (fun c p => spl c (p.1 * sz) (a.eval p.2).cells.toList) cv).length = (ps.foldl (fun c p => spl c (p.1 * sz) (cellsD (ev env p.2))) cd).length ∧
    (∀ (j : Nat) u d, (ps.foldl (fun c p => spl c (p.1 * sz) (a.eval p.2).cells.toList) cv)[j]? = some u → (ps.foldl (fun c p => spl c (p.1 * sz) (cellsD (ev env p.2))) cd)[j]? = some d → DR K β true u d) ∧
    (∀ d ∈ ps.foldl (fun c p => spl c (p.1 * sz) (cellsD (ev env p.2))) cd, OkD H d)
  | [], cv, cd, hl, hd, ho, _ => ⟨hl, hd, ho⟩
  | p :: ps, cv, cd, hl, hd, ho, hp => by
    obtain ⟨h1, h2, h3, h4, h5⟩ := hp p (by simp)
    obtain ⟨c1, c2, _⟩ := cellsD.val h4 h1
    have hcl : (a.eval p.2).cells.toList.length = sz := by rw [Array.length_toList, c1, h2]
    simp only [List.foldl_cons]
    refine lit_core sz ps _ _ ?_ ?_ ?_ fun q hq => ?_
    · rw [spl_length (by omega), spl_length (by omega)]; exact hl
    · intro j u d hu hd'
      rw [spl_get (by omega), hcl] at hu
      rw [spl_get (by omega), h2] at hd'
      by_cases g1 : j < p.1 * sz
      · rw [if_pos g1] at hu hd'; exact hd j u d hu hd'
      · rw [if_neg g1] at hu hd'
        by_cases g2 : j < p.1 * sz + sz
        · rw [if_pos g2] at hu hd'; exact c2 _ u d hu hd'
        · rw [if_neg g2] at hu hd'; exact hd j u d hu hd'
    · intro d hd'
      unfold spl at hd'
      rcases List.mem_append.1 hd' with hd' | hd'
      · rcases List.mem_append.1 hd' with hd' | hd'
        · exact ho d (List.mem_of_mem_take hd')
        · revert hd' h5
          generalize ev env p.2 = dd
          intro h5 hd'
          cases dd <;> first
            | (simp [cellsD] at hd'; subst hd'; exact h5)
            | (cases h5 with | agg _ h => exact h d hd')
      · exact ho d (List.mem_of_mem_drop hd')
    · obtain ⟨q1, q2, q3, q4, q5⟩ := hp q (by simp [hq])
      exact ⟨q1, q2, by rw [spl_length (by omega)]; exact q3, q4, q5⟩
theorem run_lit {w : World} {zv : Value} {sz len bytes : Nat} (ps : List (Nat × Value)) (ht : P.underlying t = some (.slice e)) (hi : (P.info? e).map (fun i => (i.zero, i.size, i.bytes)) = some (some zv, sz, bytes)) (hz : zv.cells.size = sz) (hlen : len * sz ≤ 16777216)
    (hp : ∀ p ∈ ps, p.2.cells.size = sz ∧ p.1 * sz + sz ≤ len * sz) :
    (Instr.buildSlice t len ps.toArray).run P w = .ok (.slice (some ⟨w.heap.size, 0, none⟩) len len) (w.alloc (.cells (ps.foldl (fun c p => spl c (p.1 * sz) p.2.cells.toList) (zeros zv (len * sz) sz)).toArray e)) := by
  obtain ⟨i, h1, h2, h3, h4⟩ := info_parts hi
  have hzero : ((Array.range (len * sz)).map (((if len * sz = 0 then (#[] : Array Value) else zv.cells)[· % (if len * sz = 0 then (#[] : Array Value) else zv.cells).size]!))).toList = zeros zv (len * sz) sz := by
    unfold zeros
    by_cases h0 : len * sz = 0
    · rw [h0]; simp
    · rw [if_neg h0, hz]
      rw [Array.toList_map, Array.toList_range]
      apply List.map_congr_left
      intro j hj
      have hs : 0 < sz := by rcases Nat.eq_zero_or_pos sz with h | h; subst h; simp at h0; exact h
      have hlt : j % sz < zv.cells.size := by rw [hz]; exact Nat.mod_lt _ hs
      rw [getElem!_pos zv.cells _ hlt]
      simp [hlt]
  obtain ⟨r, e1, e2⟩ := fill_run sz ps ((Array.range (len * sz)).map (((if len * sz = 0 then (#[] : Array Value) else zv.cells)[· % (if len * sz = 0 then (#[] : Array Value) else zv.cells).size]!))) (fun p hp' => by
    obtain ⟨g1, g2⟩ := hp p hp'
    exact ⟨g1, by simpa using g2⟩)
  rw [hzero] at e2
  have hr : r = (ps.foldl (fun c p => spl c (p.1 * sz) p.2.cells.toList) (zeros zv (len * sz) sz)).toArray := by rw [← e2]
  subst hr
  by_cases h0 : len * sz = 0
  · simp [h0] at e1
    simp [Instr.buildSlice, run_underlying ht, sizeOf, typeInfo, h1, h3, h0, newRow, e1]
  · simp only [h0, if_false] at e1
    simp [Instr.buildSlice, run_underlying ht, sizeOf, typeInfo, h1, h3, h0, newRow, zeroValue, h2, show ¬ 16777216 < len * sz by omega, e1]
theorem zeros_dr {K : Mem} {β : Nat → Nat → BT} (zs : List Value) : ∀ (j : Nat) u d, zs[j]? = some u → (zs.map D.v)[j]? = some d → DR K β true u d := by
  intro j u d hu hd
  rw [List.getElem?_map, hu] at hd; simp at hd; subst hd; exact .v _ _
/-- A slice written out, that nobody changes. -/
theorem o_lit_rd {zv : Value} {sz len bytes : Nat} {ps : List (Nat × Operand)} {cs : List D} (ht : P.underlying t = some (.slice e)) (hi : (P.info? e).map (fun i => (i.zero, i.size, i.bytes)) = some (some zv, sz, bytes)) (hz : zv.cells.size = sz) (hlen : len * sz ≤ 16777216)
    (hp : ∀ p ∈ ps, ((cellsD (ev env p.2)).all oneD) = true ∧ (cellsD (ev env p.2)).length = sz ∧ p.1 * sz + sz ≤ len * sz) (hcs : ps.foldl (fun c p => spl c (p.1 * sz) (cellsD (ev env p.2))) ((zeros zv (len * sz) sz).map D.v) = cs) (hpure : ∀ d ∈ cs, Pure' d) :
    OpD P C ⟨dst, .buildSlice t len ps.toArray, ty, pos, after, gu⟩ env H (.rd len cs) H := by
  subst hcs
  refine OpD.of (HLe.refl _) fun K β a w hw h hk => ?_
  have hmem : ∀ p ∈ ps, p.2 ∈ (Op.buildSlice t len ps.toArray).operands := fun p hp => by simp [Op.operands]; exact ⟨p.1, hp⟩
  have hcore := lit_core (H := H) (env := env) (a := a) (K := K) (β := β) sz ps (zeros zv (len * sz) sz) ((zeros zv (len * sz) sz).map D.v) (by simp) (zeros_dr _) (fun d hd => by obtain ⟨u, _, rfl⟩ := List.mem_map.1 hd; exact .v _) (fun p hp' => by
    obtain ⟨g1, g2, g3⟩ := hp p hp'
    exact ⟨g1, g2, by simpa [zeros] using g3, h _ (hmem p hp'), hk _ (hmem p hp')⟩)
  obtain ⟨k1, k2, k3⟩ := hcore
  have hrun := run_lit (P := P) (w := w) (ps.map fun p => (p.1, a.eval p.2)) ht hi hz hlen (fun p hp' => by
    obtain ⟨q, hq, rfl⟩ := List.mem_map.1 hp'
    obtain ⟨g1, g2, g3⟩ := hp q hq
    obtain ⟨c1, _, _⟩ := cellsD.val (h _ (hmem q hq)) g1
    exact ⟨by rw [c1]; exact g2, g3⟩)
  have hfold : (ps.map fun p => (p.1, a.eval p.2)).foldl (fun c p => spl c (p.1 * sz) p.2.cells.toList) (zeros zv (len * sz) sz) = ps.foldl (fun c p => spl c (p.1 * sz) (a.eval p.2).cells.toList) (zeros zv (len * sz) sz) := by
    rw [List.foldl_map]
  rw [hfold] at hrun
  refine ⟨_, β, .slice (some ⟨w.heap.size, 0, none⟩) len len, _, ?_, ⟨Mem.le_add hw.fresh, fun b c hb => ?_⟩, Agr.refl _ _, hw.still (ps.foldl (fun c p => spl c (p.1 * sz) (a.eval p.2).cells.toList) (zeros zv (len * sz) sz)).toArray e (0, 0), ?_, .rd _ _⟩
  · simp only [execOp, Sem.run_bind, List.map_toArray, hrun, Result.andThen_ok, Sem.run_pure]
  · unfold Mem.add at hb
    by_cases he : b = w.heap.size
    · exact .inr (.inl (by rw [he]; exact hw.size))
    · rw [if_neg he] at hb; exact .inl hb
  · refine .rd _ _ _ _ _ _ (Nat.le_refl _) k1 (fun j u hu => ⟨_, rfl, ?_⟩) fun j u d hu hd => ?_
    · rw [add_lit]
      unfold Mem.cell Mem.add
      simp only [if_true, Option.isSome_none, Bool.false_eq_true, if_false, Nat.zero_add, List.getElem?_toArray]
      exact hu
    · exact ((k2 j u d hu hd).down (hpure d (List.mem_of_getElem? hd))).mono (H := []) (Mem.le_add hw.fresh) (by intro h; cases h) (Agr.refl _ _)
def litOK (env : Nat → D) (sz tot : Nat) (ps : List (Nat × Operand)) : Bool := ps.all fun p => ((cellsD (ev env p.2)).all oneD) && (Nat.beq (cellsD (ev env p.2)).length sz && Nat.ble (p.1 * sz + sz) tot)
theorem litOK.at {sz tot : Nat} {ps : List (Nat × Operand)} (h : litOK env sz tot ps = true) : ∀ p ∈ ps, ((cellsD (ev env p.2)).all oneD) = true ∧ (cellsD (ev env p.2)).length = sz ∧ p.1 * sz + sz ≤ tot := by
  intro p hp
  have := List.all_eq_true.1 h p hp
  rw [Bool.and_eq_true, Bool.and_eq_true] at this
  exact ⟨this.1, Nat.eq_of_beq_eq_true this.2.1, Nat.le_of_ble_eq_true this.2.2⟩
theorem allV {cs : List D} (h : cs.all isV = true) : ∀ d ∈ cs, Pure' d := by
  intro d hd
  have := List.all_eq_true.1 h d hd
  cases d <;> first | exact .v _ | cases this
/-! ### Cuts of bytes -/
/-! ### Drawn regions, walked in the text's order -/
def PG (P : Program) (C : Ctx) (N : Nat) (ops : Array Oper) (Hs : Heap → Prop) (i : Nat) (rest : List Oper) (env : Nat → D) (H : Heap) (F : List (D × Bool × Heap) → (Nat → D) → Heap → Prop) : Prop := ∃ l env' H', Plan P C N ops Hs i rest env H l env' H' ∧ F l env' H'
section
variable {P : Program} {C : Ctx} {N : Nat} {ops : Array Oper} {Hs : Heap → Prop} {i : Nat} {o : Oper} {rest : List Oper} {env : Nat → D} {H H1 : Heap} {F : List (D × Bool × Heap) → (Nat → D) → Heap → Prop} {d : D}
theorem PG.nil (h : F [] env H) : PG P C N ops Hs i [] env H F := ⟨[], env, H, .nil _ _ _, h⟩
theorem PG.op (d : D) (ho : ops[i]? = some o) (hg : o.guard = none) (hf : fits N o = true) (h : ∀ H, Hs H → OpD P C o env H d H) (r : PG P C N ops Hs (i + 1) rest (updO env o.dst d) H fun l e h => F ((d, false, H) :: l) e h) : PG P C N ops Hs i (o :: rest) env H F :=
  let ⟨_, e', H', p, f⟩ := r; ⟨_, e', H', .op ho hg hf h p, f⟩
theorem PG.opg (d : D) (b : Bool) (j : Nat) (want : Bool) (t : Nat) (ho : ops[i]? = some o) (hg : o.guard = some (j, want)) (ht : (ops[j]?).bind (·.dst) = some t) (hlt : Nat.blt t N = true) (hb : env t = .v (.bool b)) (hf : fits N o = true)
    (h : b = want → ∀ H, Hs H → OpD P C o env H d H) (r : PG P C N ops Hs (i + 1) rest (updO env o.dst (gd (b == want) d)) H fun l e h => F ((gd (b == want) d, false, H) :: l) e h) : PG P C N ops Hs i (o :: rest) env H F :=
  let ⟨_, e', H', p, f⟩ := r; ⟨_, e', H', .opg b j want t ho hg ht hlt hb hf h p, f⟩
theorem PG.opm (d : D) (H1 : Heap) (ho : ops[i]? = some o) (hg : o.guard = none) (hf : fits N o = true) (h : OpD P C o env H d H1) (r : PG P C N ops Hs (i + 1) rest (updO env o.dst d) H1 fun l e h => F ((d, true, H1) :: l) e h) : PG P C N ops Hs i (o :: rest) env H F :=
  let ⟨_, e', H', p, f⟩ := r; ⟨_, e', H', .opm ho hg hf h p, f⟩
end
theorem WC.drawn1 {P : Program} {C : Ctx} {N : Nat} {s : St} {Q : DX → St → Prop} {id : Nat} {ol : List Oper} (hm : P.follows .mixedOrders = true)
    (hp : PG P C N ol.toArray (fun H => H = s.H) 0 ol s.env s.H fun l env' H' => drawOK ol.toArray (l.map fun s => s.2.1) = true ∧ (l.all fun x => !x.2.1) = true ∧ Q .normal ⟨env', H'⟩) : WC P C N (.region id ol.toArray true) s Q := by
  obtain ⟨l, env', H', hp, hok, hc, hq⟩ := hp
  exact WC.drawn (fun H => H = s.H) l env' H' hm hp hok (.inr ⟨rfl, fun x hx e => by have := List.all_eq_true.1 hc x hx; rw [e] at this; cases this⟩) hq
theorem WC.drawn2 {P : Program} {C : Ctx} {N : Nat} {s : St} {Q : DX → St → Prop} {id : Nat} {ol : List Oper} (hm : P.follows .mixedOrders = true)
    (hp : PG P C N ol.toArray (fun _ => True) 0 ol s.env s.H fun l env' H' => drawOK ol.toArray (l.map fun s => s.2.1) = true ∧ True ∧ Q .normal ⟨env', H'⟩) : WC P C N (.region id ol.toArray true) s Q := by
  obtain ⟨l, env', H', hp, hok, _, hq⟩ := hp
  exact WC.drawn (fun _ => True) l env' H' hm hp hok (.inl fun _ => trivial) hq

theorem WC.drawn3 (Hs : Heap → Prop) {P : Program} {C : Ctx} {N : Nat} {s : St} {Q : DX → St → Prop} {id : Nat} {ol : List Oper} (hm : P.follows .mixedOrders = true) (h0 : Hs s.H)
    (hp : PG P C N ol.toArray Hs 0 ol s.env s.H fun l env' H' => drawOK ol.toArray (l.map fun s => s.2.1) = true ∧ (∀ x ∈ l, x.2.1 = true → Hs x.2.2) ∧ Q .normal ⟨env', H'⟩) : WC P C N (.region id ol.toArray true) s Q := by
  obtain ⟨l, env', H', hp, hok, hh, hq⟩ := hp
  exact WC.drawn Hs l env' H' hm hp hok (.inr ⟨h0, hh⟩) hq
theorem noHs {Hs : Prop} {b : Bool} (h : b = false) : b = true → Hs := fun e => by rw [h] at e; cases e

/-! ### Heads of loops -/
def vle : Option Blk → Option Blk → Prop
  | some b, some b' => b.ver ≤ b'.ver
  | _, none => True
  | none, some _ => False
def VLe : List (Option Blk) → List (Option Blk) → Prop
  | [], _ => True
  | _ :: _, [] => False
  | x :: xs, y :: ys => vle x y ∧ VLe xs ys
theorem VLe.le : ∀ {H H' : Heap}, VLe H H' → HLe H H'
  | [], _, _ => fun id v h => by unfold okV at h; simp at h
  | _ :: _, [], h => h.elim
  | x :: xs, y :: ys, h => fun id v hv => by
    rcases id with _ | id
    · unfold okV at *
      simp only [List.getElem?_cons_zero] at *
      cases y with
      | none => trivial
      | some b' =>
        cases x with
        | none => exact h.1.elim
        | some b => exact Nat.le_trans hv h.1
    · have := VLe.le h.2 id v (by unfold okV at *; simpa using hv)
      unfold okV at *
      simpa using this
theorem Head.mk' {H1 : Heap} {e : Nat → D} {W : List Nat} {A : List (Nat × D)} {H0 : Heap} {s : St} (live : Live s.env H0 A) (rest : ∀ j, W.elem j = false → s.env j = e j) (heap : s.H.take H1.length = H0) (le : VLe H1 H0) (okH : OkH H0 H0) : Head H1 e W A H0 s := ⟨live, rest, heap, le.le, okH⟩
/-! ### Calls that are lent what the caller owns -/
end
end Go.DL
namespace Go.DL
open Go.RowKit

/-- All that lies in a world. -/
def K0 (W : World) : Mem := fun b => W.heap[b]?
theorem K0.holds (W : World) : ∀ b c, K0 W b = some c → W.heap[b]? = some c := fun _ _ h => h
theorem K0.cell {W : World} {a : Addr} {u : Value} (h : W.cell? a = some u) : (K0 W).cell a = some u := by
  unfold World.cell? at h
  unfold Mem.cell K0
  exact h
def DRs (K : Mem) (us : List Value) (ds : List D) : Prop := us.length = ds.length ∧ ∀ (j : Nat) u d, us[j]? = some u → ds[j]? = some d → DR K β0 false u d
theorem DRs.nil (K : Mem) : DRs K [] [] := ⟨rfl, by simp⟩
theorem DRs.one {K : Mem} {u : Value} {d : D} (h : DR K β0 false u d) : DRs K [u] [d] := ⟨rfl, fun j x c hx hc => by
  rcases j with _ | j
  · simp at hx hc; subst hx hc; exact h
  · simp at hx⟩
theorem DRs.app {K : Mem} {us us' : List Value} {ds ds' : List D} (h : DRs K us ds) (h' : DRs K us' ds') : DRs K (us ++ us') (ds ++ ds') := by
  refine ⟨by simp [h.1, h'.1], fun j u d hu hd => ?_⟩
  by_cases hj : j < us.length
  · rw [List.getElem?_append_left hj] at hu
    rw [List.getElem?_append_left (by have := h.1; omega)] at hd
    exact h.2 j u d hu hd
  · rw [List.getElem?_append_right (by omega)] at hu
    rw [List.getElem?_append_right (by have := h.1; omega), ← h.1] at hd
    exact h'.2 _ u d hu hd

/-- Whatever reads as_ a type reads as_ one of these data. -/
def Rds (P : Program) (t : TypeId) {α : Type} (ok : α → Prop) (f : α → List D) : Prop :=
  ∀ {H : Type} (enc : TypeId × Value → H) (W : World) (fuel : Nat) (cs : List Value) (x : DataW H × List MemPlace), DataW.trod enc P W 0 (fun _ => true) true fuel t cs = some x → ∃ a, ok a ∧ DRs (K0 W) cs (f a)
section
variable {P : Program} {t e : TypeId} {α : Type} {ok : α → Prop} {f : α → List D}
theorem Rds.int {k : IntKind} (ht : P.underlying t = some (.int k)) : Rds P t (fun n : Int => (Lit.int k n).wf = true) (fun n => [.v (.int k n)]) := by
  intro H enc W fuel cs x h
  obtain ⟨n, rfl, _, hw⟩ := DataW.trod_int ht h
  exact ⟨n, hw, .one (.v _ _)⟩
/-- The same data, told otherwise. -/
theorem Rds.map {γ : Type} {ok' : γ → Prop} {g : γ → List D} (R : Rds P t ok f) (h : ∀ a, ok a → ∃ c, ok' c ∧ f a = g c) : Rds P t ok' g := by
  intro H enc W fuel cs x hx
  obtain ⟨a, h1, h2⟩ := R enc W fuel cs x hx
  obtain ⟨c, h3, h4⟩ := h a h1
  exact ⟨c, h3, h4 ▸ h2⟩
theorem cells?_get {W : World} {a : Addr} {n : Nat} {cs : List Value} (h : W.cells? 0 a n = some cs) : cs.length = n ∧ ∀ (j : Nat) u, cs[j]? = some u → W.cell? (a.add j) = some u := by
  unfold World.cells? at h
  rw [if_pos (Nat.zero_le _)] at h
  have hl := mapM_some_length h
  refine ⟨by simpa using hl, fun j u hu => ?_⟩
  have hj : j < n := by have := (List.getElem?_eq_some_iff.1 hu).1; simp at hl; omega
  have := mapM_some_get h j j (by simp [hj])
  rw [this]; exact hu
theorem Rds.slice {sz : Nat} (ht : P.underlying t = some (.slice e)) (hz : (P.info? e).map (·.size) = some sz) (R : Rds P e ok f) : Rds P t (fun l : List α => (∀ a ∈ l, ok a) ∧ l.length ≤ maxLen) (fun l => [.rd l.length (l.flatMap f)]) := by
  intro H enc W fuel cs x h
  have hsz : P.cellsOf e = sz := by unfold Program.cellsOf; rw [hz]; rfl
  rcases DataW.trod_slice ht h with ⟨rfl, _⟩ | ⟨a, len, cap, elems, rest, n, _, rfl, _, _, hlc, hcm, hel, hget, _⟩
  · exact ⟨[], ⟨by simp, by simp⟩, .one (.rd _ none 0 0 [] [] (Nat.le_refl _) rfl (by simp) (by simp))⟩
  · rw [hsz] at hget
    have key : ∀ m, m ≤ len → ∃ (l : List α) (us : List Value), l.length = m ∧ (∀ a ∈ l, ok a) ∧ us.length = (l.flatMap f).length ∧ us.length = m * sz ∧ (∀ (j : Nat) u, us[j]? = some u → W.cell? (a.add j) = some u) ∧ (∀ (j : Nat) u d, us[j]? = some u → (l.flatMap f)[j]? = some d → DR (K0 W) β0 false u d) := by
      intro m
      induction m with
      | zero => intro _; exact ⟨[], [], rfl, by simp, rfl, by simp, by simp, by simp⟩
      | succ m ih =>
        intro hm
        obtain ⟨l, us, h1, h2, h3, h4, h5, h6⟩ := ih (by omega)
        have hg := hget m (by omega)
        rw [List.getElem?_eq_getElem (by omega)] at hg
        obtain ⟨cs', hc1, hc2⟩ := Option.bind_eq_some_iff.1 hg
        obtain ⟨c1, c2⟩ := cells?_get hc1
        obtain ⟨b, hb1, hb2⟩ := R enc W n cs' _ hc2
        refine ⟨l ++ [b], us ++ cs', by simp [h1], ?_, ?_, ?_, ?_, ?_⟩
        · intro y hy
          rcases List.mem_append.1 hy with hy | hy
          · exact h2 y hy
          · simp at hy; subst hy; exact hb1
        · rw [List.length_append, List.flatMap_append, List.length_append, h3, hb2.1]; simp
        · rw [List.length_append, h4, c1, Nat.add_mul]; omega
        · intro j u hu
          by_cases hj : j < us.length
          · rw [List.getElem?_append_left hj] at hu; exact h5 j u hu
          · rw [List.getElem?_append_right (by omega)] at hu
            have := c2 _ u hu
            rw [add_add] at this
            rw [← this]; congr 2; omega
        · have := DRs.app (K := K0 W) ⟨h3, h6⟩ hb2
          rw [List.flatMap_append]
          simpa using this.2
    obtain ⟨l, us, h1, h2, h3, h4, h5, h6⟩ := key len (Nat.le_refl _)
    refine ⟨l, ⟨h2, by omega⟩, .one ?_⟩
    rw [h1]
    exact .rd _ (some a) len cap us _ hlc h3 (fun j u hu => ⟨a, rfl, K0.cell (h5 j u hu)⟩) h6
/-- The fields of a struct, from cell 'off' on. -/
def RdF (P : Program) (off : Nat) (fs : List Field) {α : Type} (ok : α → Prop) (f : α → List D) (tot : Nat) : Prop :=
  ∀ {H : Type} (enc : TypeId × Value → H) (W : World) (n : Nat) (cs : List Value), (∀ fl ∈ fs, ∃ x, DataW.trod enc P W 0 (fun _ => true) true n fl.type ((cs.drop fl.offset).take (P.cellsOf fl.type)) = some x) → ∃ a, ok a ∧ DRs (K0 W) ((cs.drop off).take tot) (f a)
theorem RdF.nil (off : Nat) : RdF P off [] (fun _ : Unit => True) (fun _ => []) 0 := fun _ _ _ _ _ => ⟨(), trivial, by simpa using DRs.nil _⟩
theorem RdF.cons {off sz tot : Nat} {fl : Field} {fs : List Field} {γ : Type} {ok' : γ → Prop} {g : γ → List D} (ho : fl.offset = off) (hz : (P.info? fl.type).map (·.size) = some sz) (R : Rds P fl.type ok f) (Rs : RdF P (off + sz) fs ok' g tot) :
    RdF P off (fl :: fs) (fun p : α × γ => ok p.1 ∧ ok' p.2) (fun p => f p.1 ++ g p.2) (sz + tot) := by
  intro H enc W n cs h
  have hsz : P.cellsOf fl.type = sz := by unfold Program.cellsOf; rw [hz]; rfl
  obtain ⟨x, hx⟩ := h fl (by simp)
  rw [ho, hsz] at hx
  obtain ⟨a, h1, h2⟩ := R enc W n _ x hx
  obtain ⟨b, h3, h4⟩ := Rs enc W n cs fun fl' hf => h fl' (by simp [hf])
  refine ⟨(a, b), ⟨h1, h3⟩, ?_⟩
  rw [List.take_add, List.drop_drop]
  exact h2.app h4
theorem Rds.struct {fs : Array Field} {tot : Nat} (ht : P.underlying t = some (.struct fs)) (hn : (P.info? t).map (·.size) = some tot) (R : RdF P 0 fs.toList ok f tot) : Rds P t ok f := by
  intro H enc W fuel cs x h
  have hct : P.cellsOf t = tot := by unfold Program.cellsOf; rw [hn]; rfl
  obtain ⟨xs, n, _, _, hl, hxl, hget⟩ := DataW.trod_struct ht h
  obtain ⟨a, h1, h2⟩ := R enc W n cs fun fl hf => by
    obtain ⟨i, hi⟩ := List.getElem?_of_mem hf
    have hi' : fs[i]? = some fl := by simpa using hi
    have := hget i fl hi'
    rw [List.getElem?_eq_getElem (by have := (Array.getElem?_eq_some_iff.1 hi').1; omega)] at this
    exact ⟨_, this⟩
  refine ⟨a, h1, ?_⟩
  rw [List.drop_zero, List.take_of_length_le (by omega)] at h2
  exact h2

/-- A parameter of a type of one cell. -/
theorem Rds.flatArg {td : TypeDesc} (R : Rds P t ok f) (hu : P.underlying t = some td) (hf : flat td = true) {H : Type} {enc : TypeId × Value → H} {W : World} {v : Value} {d : DataW H} {ps : List MemPlace} {base : Nat} (hok : Value.okWide P W .any base t v)
    (h : DataW.Trod enc P W 0 (fun _ => true) true t v d ps) : ∃ a, ok a ∧ DR (K0 W) β0 false v ((f a).headD .any) := by
  obtain ⟨fuel, hx⟩ := h
  obtain ⟨a, h1, h2⟩ := R enc W fuel _ _ hx
  refine ⟨a, h1, ?_⟩
  have hv : v.cells = #[v] := by
    unfold Value.okWide at hok
    rw [hu] at hok
    cases td <;> first
      | (simp [flat] at hf; done)
      | (cases v <;> first | rfl | (simp [Cell.okWide, Cell.ok] at hok; done) | (simp_all [Cell.okWide, Cell.ok]; done))
  rw [hv] at h2
  cases hfa : f a with
  | nil => rw [hfa] at h2; have := h2.1; simp at this
  | cons d l => rw [hfa] at h2; exact h2.2 0 v d rfl rfl
end
section
variable {P : Program} {t e : TypeId}
theorem Rds.i64 (ht : P.underlying t = some (.int .i64)) : Rds P t (fun n : Int => -9223372036854775808 ≤ n ∧ n ≤ 9223372036854775807) (fun n => [I64 n]) :=
  Rds.map (Rds.int ht) fun n h => by
    unfold Lit.wf at h
    rw [Bool.and_eq_true, decide_eq_true_iff, decide_eq_true_iff] at h
    exact ⟨n, h, rfl⟩
end
theorem DRs.cons {K : Mem} {u : Value} {d : D} {us : List Value} {ds : List D} (h : DR K β0 false u d) (h' : DRs K us ds) : DRs K (u :: us) (d :: ds) := (DRs.one h).app h'
/-- From a function of data to the walk of a law. -/
theorem Fun.law {P : Program} {f : FuncId} {ds : List D} (h : Fun P f ds (· = .v (.bool true))) (W : World) (vs : List Value) (hv : DRs (K0 W) vs ds) : Calls P f vs.toArray W fun e W' => e = .returned (.bool true) ∧ Below W.heap.size W W' :=
  (h (K0 W) W vs hv.1 hv.2 (K0.holds W)).mono fun e W' ⟨v, d, K', h1, h2, _, _, h5, h6⟩ => by
    subst h2
    exact ⟨by rw [h1, h5.v_inv], h6⟩
end Go.DL
namespace Go.DL
open Go.RowKit

section
variable {P : Program} {C : Ctx} {env : Nat → D} {H : Heap} {dst : Option Nat} {ty t t' e : TypeId} {pos : String} {after : Array Edge} {gu : Option (Nat × Bool)} {X Y Z : Operand}
theorem o_extract {ds : List D} {i : Nat} {d : D} (hx : ev env X = .tup ds) (hd : ds[i]? = some d) : OpD P C ⟨dst, .extract X i, ty, pos, after, gu⟩ env H d H := by
  refine OpD.same fun K β ac w _ h hk => ?_
  have h0 := h X (by simp [Op.operands])
  have hk0 := hk X (by simp [Op.operands])
  rw [hx] at h0 hk0
  obtain ⟨us, e1, hl, hds⟩ := h0.tup_inv
  have hlt : i < us.length := by rw [hl]; exact (List.getElem?_eq_some_iff.1 hd).1
  refine ⟨us[i], ?_, hds i _ d (List.getElem?_eq_getElem hlt) hd, ?_⟩
  · simp [execOp, e1, Instr.extract, hlt]
  · cases hk0 with | tup _ hk0 => exact hk0 d (List.mem_of_getElem? hd)

theorem cellsD_ok {d : D} (h : OkD H d) : ∀ c ∈ cellsD d, OkD H c := by
  intro c hc
  cases d with
  | agg cs => cases h with | agg _ h => exact h c hc
  | _ => simp [cellsD] at hc; subst hc; exact h
/-! ### Structs built -/
def dfill (env : Nat → D) (pl : Nat → Option (Nat × Nat)) : List D → List (Nat × Operand) → Option (List D)
  | cs, [] => some cs
  | cs, (i, x) :: ps => match pl i with
    | none => none
    | some (off, size) => if ((cellsD (ev env x)).all oneD && (Nat.beq (cellsD (ev env x)).length size && Nat.ble (off + size) cs.length)) = true then dfill env pl (spl cs off (cellsD (ev env x))) ps else none
theorem dfill_core {K : Mem} {β : Nat → Nat → BT} {a : Act} {pl : Nat → Option (Nat × Nat)} : ∀ (ps : List (Nat × Operand)) (cv : Array Value) (cd cs : List D), cv.size = cd.length → (∀ (j : Nat) u d, cv.toList[j]? = some u → cd[j]? = some d → DR K β true u d) → (∀ d ∈ cd, OkD H d) →
    (∀ p ∈ ps, DR K β true (a.eval p.2) (ev env p.2) ∧ OkD H (ev env p.2)) → dfill env pl cd ps = some cs →
    ∃ r : Array Value, Instr.fill pl cv (ps.map fun p => (p.1, a.eval p.2)) = some r ∧ r.size = cs.length ∧ (∀ (j : Nat) u d, r.toList[j]? = some u → cs[j]? = some d → DR K β true u d) ∧ (∀ d ∈ cs, OkD H d)
  | [], cv, cd, cs, hl, hd, ho, _, hf => by
    simp only [dfill, Option.some.injEq] at hf
    subst hf
    exact ⟨cv, rfl, hl, hd, ho⟩
  | (i, x) :: ps, cv, cd, cs, hl, hd, ho, hp, hf => by
    obtain ⟨h4, h5⟩ := hp (i, x) (by simp)
    simp only at h4 h5
    unfold dfill at hf
    cases hpl : pl i with
    | none => rw [hpl] at hf; cases hf
    | some q =>
      obtain ⟨off, size⟩ := q
      rw [hpl] at hf
      simp only at hf
      split at hf
      · rename_i hc
        rw [Bool.and_eq_true, Bool.and_eq_true] at hc
        obtain ⟨h1, h2, h3⟩ := hc
        have h2 := Nat.eq_of_beq_eq_true h2
        have h3 := Nat.le_of_ble_eq_true h3
        obtain ⟨c1, c2, _⟩ := cellsD.val h4 h1
        have hcl : (a.eval x).cells.toList.length = size := by rw [Array.length_toList, c1, h2]
        have hl' : cv.toList.length = cd.length := by rw [Array.length_toList]; exact hl
        have hset := foldl_set off (a.eval x).cells.toList 0 cv (by omega)
        have hsl : (((a.eval x).cells.zipIdx.foldl (fun cs (c, j) => cs.setIfInBounds (off + j) c) cv)).toList = spl cv.toList off (a.eval x).cells.toList := by
          rw [← Array.foldl_toList, Array.toList_zipIdx, hset]; simp
        obtain ⟨r, e1, e2, e3, e4⟩ := dfill_core ps ((a.eval x).cells.zipIdx.foldl (fun cs (c, j) => cs.setIfInBounds (off + j) c) cv) (spl cd off (cellsD (ev env x))) cs (by
            rw [← Array.length_toList, hsl, spl_length (by omega), spl_length (by omega)]; exact hl')
          (fun j u d hu hd' => by
            rw [hsl, spl_get (by omega), hcl] at hu
            rw [spl_get (by omega), h2] at hd'
            by_cases g1 : j < off
            · rw [if_pos g1] at hu hd'; exact hd j u d hu hd'
            · rw [if_neg g1] at hu hd'
              by_cases g2 : j < off + size
              · rw [if_pos g2] at hu hd'; exact c2 _ u d hu hd'
              · rw [if_neg g2] at hu hd'; exact hd j u d hu hd')
          (fun d hd' => by
            unfold spl at hd'
            rcases List.mem_append.1 hd' with hd' | hd'
            · rcases List.mem_append.1 hd' with hd' | hd'
              · exact ho d (List.mem_of_mem_take hd')
              · exact cellsD_ok h5 d hd'
            · exact ho d (List.mem_of_mem_drop hd'))
          (fun q hq => hp q (by simp [hq])) hf
        refine ⟨r, ?_, e2, e3, e4⟩
        rw [List.map_cons]
        unfold Instr.fill
        simp only [hpl]
        rw [if_neg (by simp only [ne_eq, Bool.or_eq_true, decide_eq_true_eq, not_or]; omega)]
        exact e1
      · cases hf
theorem o_build {zv : Value} {n bytes : Nat} {fs : Array Field} {pl : List (Nat × Nat)} {ps : List (Nat × Operand)} {cs : List D} (ht : P.underlying t = some (.struct fs)) (hi : (P.info? t).map (fun i => (i.zero, i.size, i.bytes)) = some (some zv, n, bytes))
    (hp : fs.toList.mapM (fun f => (P.info? f.type).map fun i => (f.offset, i.size)) = some pl) (hd : dfill env (pl.toArray[·]?) (zv.cells.toList.map D.v) ps = some cs) :
    OpD P C ⟨dst, .build t ps.toArray, ty, pos, after, gu⟩ env H (.agg cs) H := by
  refine OpD.same fun K β ac w _ h hk => ?_
  obtain ⟨i, hi1, hi2, hi3, hi4⟩ := info_parts hi
  have hmem : ∀ p ∈ ps, p.2 ∈ (Op.build t ps.toArray).operands := fun p hp => by simp [Op.operands]; exact ⟨p.1, hp⟩
  obtain ⟨r, e1, e2, e3, e4⟩ := dfill_core (H := H) (env := env) (K := K) (β := β) (a := ac) ps zv.cells (zv.cells.toList.map D.v) cs (by simp) (fun j u d hu hd' => by
      rw [List.getElem?_map, hu] at hd'; simp at hd'; subst hd'; exact .v _ _) (fun d hd' => by obtain ⟨u, _, rfl⟩ := List.mem_map.1 hd'; exact .v _) (fun p hp => ⟨h _ (hmem p hp), hk _ (hmem p hp)⟩) hd
  have hb : P.built t (ps.map fun p => (p.1, ac.eval p.2)) = some r := by
    unfold Program.built
    simp only [hi1, ht, hi2, hp]
    exact e1
  refine ⟨.agg r, ?_, ?_, .agg _ e4⟩
  · have := run_build (P := P) w t (ps.map fun p => (p.1, ac.eval p.2)).toArray r (by simpa using hb)
    simp only [execOp, Sem.run_bind, List.map_toArray, this, Result.andThen_ok, Sem.run_pure]
  · have e : Value.agg r = .agg r.toList.toArray := by simp
    rw [e]
    exact .agg _ _ _ (by rw [Array.length_toList]; exact e2) e3

/-! ### Structs held against each other -/
def eq1 : D → D → Bool
  | .v (.int _ a), .v (.int _ b) => a == b
  | .v (.bool a), .v (.bool b) => a == b
  | .v (.string a), .v (.string b) => a.toList == b.toList
  | _, _ => false
def eqDs : List D → List D → Bool
  | [], [] => true
  | x :: xs, y :: ys => eq1 x y && eqDs xs ys
  | _, _ => false
/-- A struct whose fields are of one cell each, numbers, truths or strings. -/
def flatOK : List TypeDesc → List D → List D → Bool
  | [], [], [] => true
  | td :: tds, x :: xs, y :: ys => (match td, x, y with
    | .int k, .v (.int k1 _), .v (.int k2 _) => decide (k1 = k ∧ k2 = k)
    | .bool, .v (.bool _), .v (.bool _) => true
    | .string, .v (.string _), .v (.string _) => true
    | _, _, _ => false) && flatOK tds xs ys
  | _, _, _ => false
structure FlatS (P : Program) (t : TypeId) (tds : List TypeDesc) : Prop where
  un : P.underlying t = some (.struct (P.fieldsOf t))
  held : P.stoodInHeld t = false
  grd : P.eqGuardType P.depth t = false
  fl : (P.fieldsOf t).toList.map (fun f => (f.name != "_", f.offset, P.underlying f.type)) = tds.zipIdx.map (fun q => (true, q.2, some q.1))
theorem run_part {t : TypeId} {td : TypeDesc} {cs : Array Value} {off : Nat} {v : Value} {w : World} (ht : P.underlying t = some td) (hf : flat td = true) (hv : cs[off]? = some v) : (part t cs off).run P w = .ok v w := by
  cases td <;> first
    | (simp [flat] at hf; done)
    | simp [part, isAgg, run_underlying ht, hv]
theorem eqFields_run {us vs : List Value} {w : World} : ∀ (fs : List Field) (k : Nat) (tds : List TypeDesc) (xs ys : List D), fs.map (fun f => (f.name != "_", f.offset, P.underlying f.type)) = (tds.zipIdx k).map (fun q => (true, q.2, some q.1)) → flatOK tds xs ys = true →
    (∀ (j : Nat) x, xs[j]? = some x → ∃ u, us[k + j]? = some u ∧ x = .v u) → (∀ (j : Nat) x, ys[j]? = some x → ∃ u, vs[k + j]? = some u ∧ x = .v u) → (Op.eqFields 9999 us.toArray vs.toArray fs).run P w = .ok (eqDs xs ys) w
  | [], k, tds, xs, ys, hf, ho, _, _ => by
    cases tds with
    | cons _ _ => simp at hf
    | nil => cases xs <;> cases ys <;> first | (simp [flatOK] at ho; done) | simp [Op.eqFields, eqDs]
  | f :: fs, k, tds, xs, ys, hf, ho, hx, hy => by
    cases tds with
    | nil => simp at hf
    | cons td tds =>
      cases xs with
      | nil => simp [flatOK] at ho
      | cons x xs =>
        cases ys with
        | nil => simp [flatOK] at ho
        | cons y ys =>
          rw [List.map_cons, List.zipIdx_cons, List.map_cons, List.cons.injEq] at hf
          obtain ⟨hf1, hf2⟩ := hf
          simp only [Prod.mk.injEq] at hf1
          obtain ⟨g1, g2, g3⟩ := hf1
          have g1' : f.name ≠ "_" := by simpa using g1
          unfold flatOK at ho
          rw [Bool.and_eq_true] at ho
          obtain ⟨ho1, ho2⟩ := ho
          obtain ⟨u, hu, rfl⟩ := hx 0 x rfl
          obtain ⟨v, hv, rfl⟩ := hy 0 y rfl
          have ih := eqFields_run (us := us) (vs := vs) (w := w) fs (k + 1) tds xs ys hf2 ho2 (fun j x h => by
              obtain ⟨u, h1, h2⟩ := hx (j + 1) x (by simpa using h); exact ⟨u, by rw [← h1]; congr 1; omega, h2⟩) (fun j x h => by
              obtain ⟨u, h1, h2⟩ := hy (j + 1) x (by simpa using h); exact ⟨u, by rw [← h1]; congr 1; omega, h2⟩)
          have hflat : flat td = true := by cases td <;> first | rfl | (simp at ho1; done)
          have p1 := run_part (P := P) (w := w) (cs := us.toArray) (off := f.offset) g3 hflat (by rw [g2]; simpa using hu)
          have p2 := run_part (P := P) (w := w) (cs := vs.toArray) (off := f.offset) g3 hflat (by rw [g2]; simpa using hv)
          have hr : (Op.equalIn 9999 f.type u v).run P w = .ok (eq1 (.v u) (.v v)) w := by
            cases td <;> cases u <;> first | (simp at ho1; done) | skip
            all_goals cases v <;> first | (simp at ho1; done) | skip
            · exact run_equalIn_bool w 9998 f.type _ _ g3
            · simp only [decide_eq_true_eq] at ho1
              obtain ⟨rfl, rfl⟩ := ho1
              exact run_equalIn_int w 9998 f.type _ _ _ _ g3
            · exact run_equalIn_string w 9998 f.type _ _ g3
          unfold Op.eqFields
          rw [if_pos g1']
          simp only [Sem.run_bind, p1, p2, hr, Result.andThen_ok]
          cases hb : eq1 (.v u) (.v v) with
          | true => simp [eqDs, hb, ih]
          | false => simp [eqDs, hb]

theorem flatOK_v : ∀ {tds : List TypeDesc} {xs ys : List D}, flatOK tds xs ys = true → (∀ x ∈ xs, ∃ u, x = .v u) ∧ (∀ y ∈ ys, ∃ u, y = .v u)
  | [], [], [], _ => ⟨by simp, by simp⟩
  | [], _ :: _, _, h => by simp [flatOK] at h
  | [], [], _ :: _, h => by simp [flatOK] at h
  | _ :: _, [], _, h => by simp [flatOK] at h
  | _ :: _, _ :: _, [], h => by simp [flatOK] at h
  | td :: tds, x :: xs, y :: ys, h => by
    unfold flatOK at h
    rw [Bool.and_eq_true] at h
    obtain ⟨h1, h2⟩ := h
    obtain ⟨i1, i2⟩ := flatOK_v h2
    have hx : (∃ u, x = .v u) ∧ (∃ u, y = .v u) := by
      cases x <;> first | (cases td <;> simp at h1; done) | skip
      cases y <;> first | (cases td <;> simp at h1; done) | skip
      all_goals first | exact ⟨⟨_, rfl⟩, ⟨_, rfl⟩⟩ | (rename_i v; cases td <;> cases v <;> simp at h1)
    exact ⟨fun z hz => (List.mem_cons.1 hz).elim (fun e => e ▸ hx.1) (i1 z), fun z hz => (List.mem_cons.1 hz).elim (fun e => e ▸ hx.2) (i2 z)⟩
theorem agg_v {K : Mem} {β : Nat → Nat → BT} {m : Bool} {us : List Value} {cs : List D} (hl : us.length = cs.length) (hd : ∀ (j : Nat) u d, us[j]? = some u → cs[j]? = some d → DR K β m u d) (hv : ∀ x ∈ cs, ∃ u, x = .v u) : ∀ (j : Nat) x, cs[j]? = some x → ∃ u, us[0 + j]? = some u ∧ x = .v u := by
  intro j x hx
  obtain ⟨u, rfl⟩ := hv x (List.mem_of_getElem? hx)
  have hlt : j < us.length := by rw [hl]; exact (List.getElem?_eq_some_iff.1 hx).1
  have := (hd j _ _ (List.getElem?_eq_getElem hlt) hx).v_inv
  exact ⟨u, by rw [Nat.zero_add, List.getElem?_eq_getElem hlt, this], rfl⟩
theorem o_neS {tds : List TypeDesc} {xs ys : List D} (S : FlatS P t tds) (hx : ev env X = .agg xs) (hy : ev env Y = .agg ys) (ho : flatOK tds xs ys = true) : OpD P C ⟨dst, .binOp .neq t X Y t', ty, pos, after, gu⟩ env H (.v (.bool !(eqDs xs ys))) H := by
  refine OpD.same fun K β ac w _ h _ => ?_
  have h0 := h X (by simp [Op.operands])
  have h1 := h Y (by simp [Op.operands])
  rw [hx] at h0; rw [hy] at h1
  obtain ⟨us, e0, l0, d0⟩ := h0.agg_inv
  obtain ⟨vs, e1, l1, d1⟩ := h1.agg_inv
  obtain ⟨v0, v1⟩ := flatOK_v ho
  have hr := eqFields_run (P := P) (w := w) (us := us) (vs := vs) (P.fieldsOf t).toList 0 tds xs ys S.fl ho (agg_v l0 d0 v0) (agg_v l1 d1 v1)
  refine ⟨.bool !(eqDs xs ys), ?_, .v _ _, .v _⟩
  simp only [execOp, e0, e1, Sem.run_bind, run_eqGuard_agg w .neq t X Y us.toArray vs.toArray S.grd, Result.andThen_ok, run_neq_struct, run_equalIn_agg w 9999 t _ _ S.un S.held, hr, Sem.run_pure]

/-! ### The least, the greatest -/
theorem o_max {a b : Int} {ats : Array TypeId} (hx : ev env X = I64 a) (hy : ev env Y = I64 b) : OpD P C ⟨dst, .call { callee := .builtin .max, args := #[X, Y], argTypes := ats }, ty, pos, after, gu⟩ env H (I64 (if b > a then b else a)) H := by
  refine OpD.same fun K β ac w _ h _ => ?_
  have h0 := h X (by simp [Op.operands, Call.operands])
  have h1 := h Y (by simp [Op.operands, Call.operands])
  rw [hx] at h0; rw [hy] at h1
  refine ⟨.int .i64 (if b > a then b else a), ?_, .v _ _, .v _⟩
  simp [execOp, resolve, invoke, builtin, Builtin.max_, Builtin.max2, h0.v_inv, h1.v_inv]
theorem o_not {b : Bool} (hx : ev env X = .v (.bool b)) : OpD P C ⟨dst, .unOp .not t X, ty, pos, after, gu⟩ env H (.v (.bool !b)) H := by
  refine OpD.same fun K β ac w _ h _ => ?_
  have h0 := h X (by simp [Op.operands])
  rw [hx] at h0
  exact ⟨.bool !b, by simp [execOp, Op.unary, h0.v_inv], .v _ _, .v _⟩
/-- The remainder as_ Go reckons it, of a divisor above 0. -/
theorem o_tmod {a b : Int} (hx : ev env X = I64 a) (hy : ev env Y = I64 b) (h1 : 0 < b) : OpD P C ⟨dst, .binOp .rem t X Y t', ty, pos, after, gu⟩ env H (I64 (a.tmod b)) H :=
  o_bin (.int .i64 (a.tmod b)) hx hy (by
    have : binOp .rem t (.int .i64 a) (.int .i64 b) = if IntKind.i64 ≠ IntKind.i64 then stuck "BinOp: operands of different kinds" else Op.intDiv .rem .i64 a b := rfl
    rw [this, if_neg (by simp)]; unfold Op.intDiv; rw [if_neg (by omega)]; rfl)
end
/-! ### Functions as_ data -/
section
variable {P : Program} {C : Ctx} {env : Nat → D} {H : Heap} {dst : Option Nat} {ty t t' e : TypeId} {pos : String} {after : Array Edge} {gu : Option (Nat × Bool)} {X Y Z : Operand}
theorem o_makeFunc {f : FuncId} {caps : List Operand} : OpD P C ⟨dst, .makeFunc (.func f) #[] caps.toArray, ty, pos, after, gu⟩ env H (.fn (.func f) (caps.map (ev env))) H := by
  refine OpD.same fun K β ac w _ h hk => ?_
  have hmem : ∀ x ∈ caps, x ∈ (Op.makeFunc (.func f) #[] caps.toArray).operands := fun x hx => by simp [Op.operands]; exact hx
  refine ⟨.func (.func f) #[] (caps.map ac.eval).toArray, by simp [execOp, Instr.makeFunc], .fn _ _ _ _ (by simp) fun j u d hu hd => ?_, .fn _ _ fun c hc => ?_⟩
  · rw [List.getElem?_map] at hu hd
    cases hj : caps[j]? with
    | none => rw [hj] at hu; cases hu
    | some x =>
      rw [hj] at hu hd; simp at hu hd; subst hu hd
      exact h x (hmem x (List.mem_of_getElem? hj))
  · obtain ⟨x, hx, rfl⟩ := List.mem_map.1 hc
    exact hk x (hmem x hx)
theorem fnD_frz {X : Operand} {f : FuncId} {cs : List D} (h : ev env X = .fn (.func f) cs ∨ (ev env X = .v (.func (.func f) #[] #[]) ∧ cs = [])) {K : Mem} {β : Nat → Nat → BT} {v : Value} (hv : DR K β true v (ev env X)) : ∃ us : List Value, v = .func (.func f) #[] us.toArray ∧ us.length = cs.length ∧ ∀ (j : Nat) u d, us[j]? = some u → cs[j]? = some d → DR K β true u d := by
  rcases h with h | ⟨h, rfl⟩
  · rw [h] at hv; exact hv.fn_inv
  · rw [h] at hv; exact ⟨[], hv.v_inv, rfl, by simp⟩
end
end Go.DL
namespace Go.Proofs.Ytoekdjdgeleelaa.Ty
open Go.DL

theorem inf2 : (Try.prog.info? 2).map (fun i => (i.zero, i.size, i.bytes)) = some (some (.int .i64 0), 1, 8) := by kernel_rfl
theorem inf4 : (Try.prog.info? 4).map (fun i => (i.zero, i.size, i.bytes)) = some (some (.bool false), 1, 1) := by kernel_rfl
theorem inf22 : (Try.prog.info? 22).map (fun i => (i.zero, i.size, i.bytes)) = some (some (.slice none 0 0), 1, 24) := by kernel_rfl
theorem inf36 : (Try.prog.info? 36).map (fun i => (i.zero, i.size, i.bytes)) = some (some (.agg #[.int .i64 0, .int .i64 0]), 2, 16) := by kernel_rfl
theorem inf73 : (Try.prog.info? 73).map (fun i => (i.zero, i.size, i.bytes)) = some (some (.agg #[.int .i64 0, .int .i64 0, .bool false, .bool false]), 4, 24) := by kernel_rfl
theorem cal8 : DL.Callee Try.prog 8 := DL.Callee.of Try.func8 (by kernel_rfl) (by kernel_rfl)
theorem cal9 : DL.Callee Try.prog 9 := DL.Callee.of Try.func9 (by kernel_rfl) (by kernel_rfl)
theorem cal10 : DL.Callee Try.prog 10 := DL.Callee.of Try.func10 (by kernel_rfl) (by kernel_rfl)
theorem cal11 : DL.Callee Try.prog 11 := DL.Callee.of Try.func11 (by kernel_rfl) (by kernel_rfl)
theorem cal12 : DL.Callee Try.prog 12 := DL.Callee.of Try.func12 (by kernel_rfl) (by kernel_rfl)
theorem cal13 : DL.Callee Try.prog 13 := DL.Callee.of Try.func13 (by kernel_rfl) (by kernel_rfl)
theorem cal14 : DL.Callee Try.prog 14 := DL.Callee.of Try.func14 (by kernel_rfl) (by kernel_rfl)
theorem cal15 : DL.Callee Try.prog 15 := DL.Callee.of Try.func15 (by kernel_rfl) (by kernel_rfl)
theorem cal16 : DL.Callee Try.prog 16 := DL.Callee.of Try.func16 (by kernel_rfl) (by kernel_rfl)
theorem cal17 : DL.Callee Try.prog 17 := DL.Callee.of Try.func17 (by kernel_rfl) (by kernel_rfl)
theorem cal18 : DL.Callee Try.prog 18 := DL.Callee.of Try.func18 (by kernel_rfl) (by kernel_rfl)
theorem cal19 : DL.Callee Try.prog 19 := DL.Callee.of Try.func19 (by kernel_rfl) (by kernel_rfl)
theorem cal20 : DL.Callee Try.prog 20 := DL.Callee.of Try.func20 (by kernel_rfl) (by kernel_rfl)
theorem cal21 : DL.Callee Try.prog 21 := DL.Callee.of Try.func21 (by kernel_rfl) (by kernel_rfl)
theorem cal22 : DL.Callee Try.prog 22 := DL.Callee.of Try.func22 (by kernel_rfl) (by kernel_rfl)
theorem cal23 : DL.Callee Try.prog 23 := DL.Callee.of Try.func23 (by kernel_rfl) (by kernel_rfl)
theorem cal24 : DL.Callee Try.prog 24 := DL.Callee.of Try.func24 (by kernel_rfl) (by kernel_rfl)
theorem cal25 : DL.Callee Try.prog 25 := DL.Callee.of Try.func25 (by kernel_rfl) (by kernel_rfl)
theorem cal26 : DL.Callee Try.prog 26 := DL.Callee.of Try.func26 (by kernel_rfl) (by kernel_rfl)
theorem cal27 : DL.Callee Try.prog 27 := DL.Callee.of Try.func27 (by kernel_rfl) (by kernel_rfl)
theorem cal28 : DL.Callee Try.prog 28 := DL.Callee.of Try.func28 (by kernel_rfl) (by kernel_rfl)
theorem cal29 : DL.Callee Try.prog 29 := DL.Callee.of Try.func29 (by kernel_rfl) (by kernel_rfl)
theorem cal30 : DL.Callee Try.prog 30 := DL.Callee.of Try.func30 (by kernel_rfl) (by kernel_rfl)
theorem cal31 : DL.Callee Try.prog 31 := DL.Callee.of Try.func31 (by kernel_rfl) (by kernel_rfl)
theorem cal32 : DL.Callee Try.prog 32 := DL.Callee.of Try.func32 (by kernel_rfl) (by kernel_rfl)
theorem cal33 : DL.Callee Try.prog 33 := DL.Callee.of Try.func33 (by kernel_rfl) (by kernel_rfl)
theorem cal34 : DL.Callee Try.prog 34 := DL.Callee.of Try.func34 (by kernel_rfl) (by kernel_rfl)
theorem cal35 : DL.Callee Try.prog 35 := DL.Callee.of Try.func35 (by kernel_rfl) (by kernel_rfl)
theorem cal36 : DL.Callee Try.prog 36 := DL.Callee.of Try.func36 (by kernel_rfl) (by kernel_rfl)
theorem cal37 : DL.Callee Try.prog 37 := DL.Callee.of Try.func37 (by kernel_rfl) (by kernel_rfl)
theorem cal38 : DL.Callee Try.prog 38 := DL.Callee.of Try.func38 (by kernel_rfl) (by kernel_rfl)
theorem cal39 : DL.Callee Try.prog 39 := DL.Callee.of Try.func39 (by kernel_rfl) (by kernel_rfl)
theorem cal40 : DL.Callee Try.prog 40 := DL.Callee.of Try.func40 (by kernel_rfl) (by kernel_rfl)
theorem cal41 : DL.Callee Try.prog 41 := DL.Callee.of Try.func41 (by kernel_rfl) (by kernel_rfl)
theorem cal42 : DL.Callee Try.prog 42 := DL.Callee.of Try.func42 (by kernel_rfl) (by kernel_rfl)
theorem cal43 : DL.Callee Try.prog 43 := DL.Callee.of Try.func43 (by kernel_rfl) (by kernel_rfl)
theorem cal46 : DL.Callee Try.prog 46 := DL.Callee.of Try.func46 (by kernel_rfl) (by kernel_rfl)
theorem cal47 : DL.Callee Try.prog 47 := DL.Callee.of Try.func47 (by kernel_rfl) (by kernel_rfl)
theorem cal48 : DL.Callee Try.prog 48 := DL.Callee.of Try.func48 (by kernel_rfl) (by kernel_rfl)
theorem cal49 : DL.Callee Try.prog 49 := DL.Callee.of Try.func49 (by kernel_rfl) (by kernel_rfl)
theorem cal50 : DL.Callee Try.prog 50 := DL.Callee.of Try.func50 (by kernel_rfl) (by kernel_rfl)
theorem cal51 : DL.Callee Try.prog 51 := DL.Callee.of Try.func51 (by kernel_rfl) (by kernel_rfl)
theorem cal52 : DL.Callee Try.prog 52 := DL.Callee.of Try.func52 (by kernel_rfl) (by kernel_rfl)
theorem cal53 : DL.Callee Try.prog 53 := DL.Callee.of Try.func53 (by kernel_rfl) (by kernel_rfl)
theorem cal54 : DL.Callee Try.prog 54 := DL.Callee.of Try.func54 (by kernel_rfl) (by kernel_rfl)
theorem cal55 : DL.Callee Try.prog 55 := DL.Callee.of Try.func55 (by kernel_rfl) (by kernel_rfl)
theorem cal56 : DL.Callee Try.prog 56 := DL.Callee.of Try.func56 (by kernel_rfl) (by kernel_rfl)
theorem cal57 : DL.Callee Try.prog 57 := DL.Callee.of Try.func57 (by kernel_rfl) (by kernel_rfl)
theorem cal58 : DL.Callee Try.prog 58 := DL.Callee.of Try.func58 (by kernel_rfl) (by kernel_rfl)
theorem cal59 : DL.Callee Try.prog 59 := DL.Callee.of Try.func59 (by kernel_rfl) (by kernel_rfl)
theorem cal60 : DL.Callee Try.prog 60 := DL.Callee.of Try.func60 (by kernel_rfl) (by kernel_rfl)
theorem cal61 : DL.Callee Try.prog 61 := DL.Callee.of Try.func61 (by kernel_rfl) (by kernel_rfl)
theorem cal62 : DL.Callee Try.prog 62 := DL.Callee.of Try.func62 (by kernel_rfl) (by kernel_rfl)
theorem cal63 : DL.Callee Try.prog 63 := DL.Callee.of Try.func63 (by kernel_rfl) (by kernel_rfl)
theorem cal67 : DL.Callee Try.prog 67 := DL.Callee.of Try.func67 (by kernel_rfl) (by kernel_rfl)
theorem cal68 : DL.Callee Try.prog 68 := DL.Callee.of Try.func68 (by kernel_rfl) (by kernel_rfl)
theorem cal69 : DL.Callee Try.prog 69 := DL.Callee.of Try.func69 (by kernel_rfl) (by kernel_rfl)
theorem cal70 : DL.Callee Try.prog 70 := DL.Callee.of Try.func70 (by kernel_rfl) (by kernel_rfl)
theorem cal71 : DL.Callee Try.prog 71 := DL.Callee.of Try.func71 (by kernel_rfl) (by kernel_rfl)
theorem cal72 : DL.Callee Try.prog 72 := DL.Callee.of Try.func72 (by kernel_rfl) (by kernel_rfl)
theorem cal83 : DL.Callee Try.prog 83 := DL.Callee.of Try.func83 (by kernel_rfl) (by kernel_rfl)
theorem cal84 : DL.Callee Try.prog 84 := DL.Callee.of Try.func84 (by kernel_rfl) (by kernel_rfl)
theorem cal85 : DL.Callee Try.prog 85 := DL.Callee.of Try.func85 (by kernel_rfl) (by kernel_rfl)
theorem cal91 : DL.Callee Try.prog 91 := DL.Callee.of Try.func91 (by kernel_rfl) (by kernel_rfl)
theorem cal92 : DL.Callee Try.prog 92 := DL.Callee.of Try.func92 (by kernel_rfl) (by kernel_rfl)
theorem pl36 {fs : Array Field} (h : Try.prog.underlying 36 = some (.struct fs)) : fs.toList.mapM (fun f => (Try.prog.info? f.type).map fun i => (f.offset, i.size)) = some [(0, 1), (1, 1)] := by
  rw [Try.underlying36] at h; cases h; kernel_rfl
theorem fs36 : FlatS Try.prog 36 [.int .i64, .int .i64] := ⟨by kernel_rfl, by kernel_rfl, by kernel_rfl, by kernel_rfl⟩
theorem pl73 {fs : Array Field} (h : Try.prog.underlying 73 = some (.struct fs)) : fs.toList.mapM (fun f => (Try.prog.info? f.type).map fun i => (f.offset, i.size)) = some [(0, 2), (2, 1), (3, 1)] := by
  rw [Try.underlying73] at h; cases h; kernel_rfl
end Go.Proofs.Ytoekdjdgeleelaa.Ty
namespace Go.DL
open Go.RowKit

/-! ### How functions end -/
def resOf (tmps : Array Value) : ResultVar → Sem Value
  | .tmp t => pure (tmps.getD t undef)
  | .cell a t => do loadVar t (← asAddr (tmps.getD a undef))
theorem results_eq (fn : Func) (tmps : Array Value) : results fn tmps = (do let vs ← fn.results.mapM (resOf tmps); pure (if h : vs.size = 1 then vs[0] else .tuple vs)) := by
  unfold results
  congr 1
/-- What a result reads as_. -/
inductive ResIs (P : Program) (s : St) : ResultVar → D → Prop
  | tmp (t : Nat) (d : D) (h : s.env t = d) : ResIs P s (.tmp t) d
  | cell {t ty id ver off : Nat} {td : TypeDesc} {b : Blk} {d : D} (ht : s.env t = .ptr id ver off) (hu : P.underlying ty = some td) (hf : flat td = true) (hb : s.H[id]? = some (some b)) (hv : b.ver = ver) (hd : b.cs[off]? = some d) : ResIs P s (.cell t ty) d
  | agg {t ty id ver off n : Nat} {td : TypeDesc} {b : Blk} (ht : s.env t = .ptr id ver off) (hu : P.underlying ty = some td) (hf : flat td = false) (hi : (P.info? ty).map (·.size) = some n) (hb : s.H[id]? = some (some b)) (hv : b.ver = ver) (hn : Nat.ble (off + n) b.cs.length = true) :
      ResIs P s (.cell t ty) (.agg ((b.cs.drop off).take n))
theorem ResIs.run {P : Program} {s : St} {r : ResultVar} {d : D} (h : ResIs P s r d) {C : Ctx} {N : Nat} {K : Mem} {β : Nat → Nat → BT} {a : Act} {w : World} (hs : SR C N K β s a w) : ∃ v, (resOf a.tmps r).run P w = .ok v w ∧ DR K β true v d ∧ OkD s.H d := by
  cases h with
  | tmp t d h => subst h; exact ⟨a.tmps.getD t undef, rfl, hs.rd t, hs.ok t⟩
  | @cell t ty id ver off td b d ht hu hf hb hv hd =>
    subst hv
    have hp := hs.rd t
    rw [ht] at hp
    obtain ⟨e, hrl⟩ := hp.ptr_inv
    obtain ⟨us, rest, hh, hl, _, _, hdd⟩ := hs.ws.real hb hrl
    have hlt : off < us.length := by rw [hl]; exact (List.getElem?_eq_some_iff.1 hd).1
    have hc : w.cell? ⟨(β id b.ver).blk, off, none⟩ = some us[off] := by rw [cell_at hh, List.getElem?_append_left hlt, List.getElem?_eq_getElem hlt]
    have e' : (a.tmps[t]?).getD undef = .pointer (some ⟨(β id b.ver).blk, off, none⟩) := by rw [← e, Array.getD_eq_getD_getElem?]
    refine ⟨us[off], ?_, hdd off _ d (List.getElem?_eq_getElem hlt) hd, hs.ws.ok id b hb d (List.mem_of_getElem? hd)⟩
    simp [resOf, e', asAddr, loadVar, run_isAgg_flat hu hf, run_load, hc]
  | @agg t ty id ver off n td b ht hu hf hi hb hv hn =>
    have hn := Nat.le_of_ble_eq_true hn
    subst hv
    have hp := hs.rd t
    rw [ht] at hp
    obtain ⟨e, hrl⟩ := hp.ptr_inv
    obtain ⟨us, rest, hh, hl, _, _, hd⟩ := hs.ws.real hb hrl
    obtain ⟨i, hi', hi2⟩ := Option.map_eq_some_iff.1 hi
    have hrun : (loadCells ⟨(β id b.ver).blk, off, none⟩ n).run P w = .ok ((us.drop off).take n).toArray w := by
      have := run_loadCells_list (P := P) w ⟨(β id b.ver).blk, off, none⟩ ((us.drop off).take n) fun j v hv => by
        rw [List.getElem?_take] at hv
        split at hv
        · rw [List.getElem?_drop] at hv
          rw [add_lit, cell_at hh, List.getElem?_append_left (List.getElem?_eq_some_iff.1 hv).1]; exact hv
        · cases hv
      rwa [List.length_take, List.length_drop, Nat.min_eq_left (by omega)] at this
    refine ⟨.agg ((us.drop off).take n).toArray, ?_, .agg _ _ _ (by simp; omega) fun j u d hu hd' => ?_, .agg _ fun c hc => ?_⟩
    · have e' : (a.tmps[t]?).getD undef = .pointer (some ⟨(β id b.ver).blk, off, none⟩) := by rw [← e, Array.getD_eq_getD_getElem?]
      simp [resOf, e', asAddr, loadVar, run_isAgg_deep hu hf, sizeOf, typeInfo, hi', hi2, hrun]
    · rw [List.getElem?_take] at hu hd'
      split at hu
      · rw [if_pos (by assumption)] at hd'
        rw [List.getElem?_drop] at hu hd'
        exact hd _ u d hu hd'
      · cases hu
    · exact hs.ws.ok id b hb c (List.mem_of_mem_drop (List.mem_of_mem_take hc))
section
variable {P : Program} {fn : Func} {s : St} {r r1 r2 r3 r4 : ResultVar} {d d1 d2 d3 d4 : D} {C : Ctx} {N : Nat} {K : Mem} {β : Nat → Nat → BT} {a : Act} {w : World}
theorem res1 (hr : fn.results = #[r]) (h : ResIs P s r d) (hs : SR C N K β s a w) : ∃ v, (results fn a.tmps).run P w = .ok v w ∧ DR K β true v d ∧ OkD s.H d := by
  obtain ⟨v, e, h1, h2⟩ := h.run hs
  exact ⟨v, by simp [results_eq, hr, e], h1, h2⟩
theorem tupR : ∀ {us : List Value} {cs : List D}, us.length = cs.length → (∀ p ∈ us.zip cs, DR K β true p.1 p.2) → DR K β true (.tuple us.toArray) (.tup cs) := fun {us cs} hl h => by
  refine .tup _ us cs hl fun j u c hu hc => h (u, c) ?_
  exact List.mem_of_getElem? (i := j) (by rw [List.getElem?_zip_eq_some]; exact ⟨hu, hc⟩)
theorem res0 (hr : fn.results = #[]) (hs : SR C N K β s a w) : ∃ v, (results fn a.tmps).run P w = .ok v w ∧ DR K β true v (.tup []) ∧ OkD s.H (.tup []) :=
  let _ := hs
  ⟨.tuple #[], by simp [results_eq, hr], tupR (us := []) rfl (by simp), .tup _ (by simp)⟩
theorem res2 (hr : fn.results = #[r1, r2]) (h1 : ResIs P s r1 d1) (h2 : ResIs P s r2 d2) (hs : SR C N K β s a w) : ∃ v, (results fn a.tmps).run P w = .ok v w ∧ DR K β true v (.tup [d1, d2]) ∧ OkD s.H (.tup [d1, d2]) := by
  obtain ⟨v1, e1, a1, b1⟩ := h1.run hs
  obtain ⟨v2, e2, a2, b2⟩ := h2.run hs
  exact ⟨.tuple #[v1, v2], by simp [results_eq, hr, e1, e2], tupR (us := [v1, v2]) rfl (by simp [a1, a2]), .tup _ (by simp [b1, b2])⟩
end
theorem Frz.tup2 {H : Heap} {a b c d : D} (h1 : Frz H a c) (h2 : Frz H b d) : Frz H (.tup [a, b]) (.tup [c, d]) := by
  refine .tup _ _ rfl fun j x y hx hy => ?_
  rcases j with _ | _ | j
  · simp at hx hy; subst hx hy; exact h1
  · simp at hx hy; subst hx hy; exact h2
  · simp at hx
section
variable {P : Program} {fn : Func} {Q : D → Prop} {s : St} {r q1 q2 q3 q4 : ResultVar} {d d1 d2 d3 d4 d' d1' d2' d3' d4' : D} {H' : Heap}
theorem Ends.r1 (hr : fn.results = #[r]) (h : ResIs P s r d) (hz : Frz s.H d d') (hq : Q d') : Ends P fn Q s := fun C N K β a w hs => by
  obtain ⟨v, e, h1, _⟩ := res1 (fn := fn) hr h hs
  exact ⟨v, _, d', e, h1, hz, hq⟩
theorem Ends.r2 (hr : fn.results = #[q1, q2]) (h1 : ResIs P s q1 d1) (h2 : ResIs P s q2 d2) (z1 : Frz s.H d1 d1') (z2 : Frz s.H d2 d2') (hq : Q (.tup [d1', d2'])) : Ends P fn Q s := fun C N K β a w hs => by
  obtain ⟨v, e, k, _⟩ := res2 (fn := fn) hr h1 h2 hs
  exact ⟨v, _, _, e, k, .tup2 z1 z2, hq⟩
theorem EndsM.r0 (hr : fn.results = #[]) (hq : Q (.tup [])) : EndsM P fn Q H' s := fun C N K β a w hs => by
  obtain ⟨v, e, h1, _⟩ := res0 (fn := fn) (P := P) hr hs
  exact ⟨v, _, e, h1, .tup _ (by simp), hq⟩
theorem EndsM.r1 (hr : fn.results = #[r]) (h : ResIs P s r d) (hz : OkD H' d) (hq : Q d) : EndsM P fn Q H' s := fun C N K β a w hs => by
  obtain ⟨v, e, h1, _⟩ := res1 (fn := fn) hr h hs
  exact ⟨v, _, e, h1, hz, hq⟩
end
/-- What is kept at the end of a call that has all. -/
theorem endM.mk {P : Program} {fn : Func} {H0 : Heap} {Q : DOut → Heap → Prop} {s : St} (n : Nat) (H' : Heap) (hk : s.H.take n = H') (hn : Nat.ble H0.length n = true) (ho : OkH H' H') (h : EndsM P fn (fun d => Q (.ret d) H') H' s) : endM P fn H0 Q .ret s := ⟨n, H', ⟨hk, Nat.le_of_ble_eq_true hn, ho⟩, h⟩
theorem endM.mkN {P : Program} {fn : Func} {H0 : Heap} {Q : DOut → Heap → Prop} {s : St} (n : Nat) (H' : Heap) (hk : s.H.take n = H') (hn : Nat.ble H0.length n = true) (ho : OkH H' H') (h : EndsM P fn (fun d => Q (.ret d) H') H' s) : endM P fn H0 Q .normal s := ⟨n, H', ⟨hk, Nat.le_of_ble_eq_true hn, ho⟩, h⟩

/-! ### Calls that have all that the caller owns -/
section
variable {P : Program} {C : Ctx} {env : Nat → D} {H H' : Heap} {dst : Option Nat} {ty t t' e : TypeId} {pos : String} {after : Array Edge} {gu : Option (Nat × Bool)} {X Y Z : Operand}
theorem upon_outcome {C : Ctx} {o : Oper} {a : Act} {Kc : Act → World → Prop} {Q : Exit → Act → World → Prop} {f : FuncId} {args : Array Value} {w w' : World} {R : Ending → World → Prop} (hr : (execOp a.eval o).run P w = .ok (.enter f args) w') (h : Calls P f args w' R)
    (hR : ∀ e w'', R e w'' → (∃ v, e = .returned v ∧ Kc (a.put o.dst v) w'') ∨ ∃ ch, e = .panicked ch ∧ Q (.panic ch) a w'') : o.wpIn (FW C.rd) 0 P a w Kc Q := by
  refine wpIn_FW (defer_run hr (fun d h => by cases h)) ?_
  rw [hr]
  show Calls P f args w' _
  refine h.mono fun e w'' he => ?_
  rcases hR e w'' he with ⟨v, rfl, hk⟩ | ⟨ch, rfl, hk⟩
  · exact hk
  · exact hk
theorem callM_core {o : Oper} {f : FuncId} {vs : List Value} {ds : List D} {R : DOut → Heap → Prop} (hf : FunM P f ds H R) {K : Mem} {β : Nat → Nat → BT} {a : Act} {w : World} {Kc : Act → World → Prop} {Q : Exit → Act → World → Prop} (hw : WS C K β H w)
    (hrun : (execOp a.eval o).run P w = .ok (.enter f vs.toArray) w) (hl : vs.length = ds.length) (hv : ∀ (j : Nat) v d, vs[j]? = some v → ds[j]? = some d → DR K β true v d) (ho : ∀ d ∈ ds, OkD H d)
    (hn : ∀ K' β' v w' d H', R (.ret d) H' → Ext C K β H K' β' H' → WS C K' β' H' w' → DR K' β' true v d → OkD H' d → Kc (a.put o.dst v) w')
    (hp : ∀ K' β' v w' d H', R (.pan d) H' → Ext C K β H K' β' H' → WS C K' β' H' w' → DR K' β' true v d → OkD H' d → Q (.panic [{ v, recovered := false }]) a w') : o.wpIn (FW C.rd) 0 P a w Kc Q := by
  refine upon_outcome hrun (hf K β w vs hw.give hl hv ho) fun e w'' ⟨v, d, K', β', H', h1, h2, h3, h4, h5⟩ => ?_
  replace h1 := Ext.up hw h1
  replace h2 := hw.back h2
  rcases h5 with ⟨rfl, h5⟩ | ⟨rfl, h5⟩
  · exact .inl ⟨v, rfl, hn _ _ _ _ _ _ h5 h1 h2 h3 h4⟩
  · exact .inr ⟨_, rfl, hp _ _ _ _ _ _ h5 h1 h2 h3 h4⟩
theorem args_rd {as_ : List Operand} {ds : List D} (he : ArgsAre env as_ ds) {K : Mem} {β : Nat → Nat → BT} {a : Act} (hx : ∀ x ∈ as_, DR K β true (a.eval x) (ev env x)) (hk : ∀ x ∈ as_, OkD H (ev env x)) :
    (as_.map a.eval).length = ds.length ∧ (∀ (j : Nat) v d, (as_.map a.eval)[j]? = some v → ds[j]? = some d → DR K β true v d) ∧ ∀ d ∈ ds, OkD H d := by
  obtain ⟨hlen, hz⟩ := he.at
  refine ⟨by simp [hlen], fun j v d hv hd => ?_, fun d hd => ?_⟩
  · rw [List.getElem?_map] at hv
    cases hj : as_[j]? with
    | none => rw [hj] at hv; cases hv
    | some x =>
      rw [hj] at hv; simp at hv; subst hv
      exact (hx x (List.mem_of_getElem? hj)).arg (hz j x d hj hd)
  · obtain ⟨j, hj⟩ := List.getElem?_of_mem hd
    have hlt : j < as_.length := by rw [hlen]; exact (List.getElem?_eq_some_iff.1 hj).1
    rcases hz j as_[j] d (List.getElem?_eq_getElem hlt) hj with h | ⟨_, rfl⟩
    · rw [← h]; exact hk _ (List.getElem_mem hlt)
    · exact .rd _ _
/-- A call that may change what the caller owns, or throw. -/
theorem x_call {f : FuncId} {as_ : List Operand} {ats : Array TypeId} {ds : List D} {R : DOut → Heap → Prop} (hc : Callee P f) (hf : FunM P f ds H R) (he : ArgsAre env as_ ds) :
    OpX P C ⟨dst, .call { callee := .value (.func f), args := as_.toArray, argTypes := ats }, ty, pos, after, gu⟩ env H R := by
  refine ⟨fun K β a w Kc Q hw hx hk hn hp => ?_⟩
  have hrun : (execOp a.eval ⟨dst, .call { callee := .value (.func f), args := as_.toArray, argTypes := ats }, ty, pos, after, gu⟩).run P w = .ok (.enter f (as_.map a.eval).toArray) w := by
    simp [execOp, resolve, Act.eval, Deferred.ofValue, invoke, hc.run]
  have hmem : ∀ x ∈ as_, x ∈ (Op.call { callee := .value (.func f), args := as_.toArray, argTypes := ats }).operands := fun x h => by simp [Op.operands, Call.operands, h]
  obtain ⟨h1, h2, h3⟩ := args_rd (H := H) he (fun x h => hx x (hmem x h)) fun x h => hk x (hmem x h)
  exact callM_core hf hw hrun h1 h2 h3 hn hp
/-- A function as_ a datum: what a slot holds. -/
def FnIs (d : D) (f : FuncId) (cs : List D) : Prop := d = .fn (.func f) cs ∨ (d = .v (.func (.func f) #[] #[]) ∧ cs = [])
/-- The same through a function that a slot holds. -/
theorem x_callV {f : FuncId} {as_ : List Operand} {ats : Array TypeId} {cs ds : List D} {R : DOut → Heap → Prop} (hX : FnIs (ev env X) f cs) (hc : Callee P f) (hf : FunM P f (ds ++ cs) H R) (he : ArgsAre env as_ ds) :
    OpX P C ⟨dst, .call { callee := .value X, args := as_.toArray, argTypes := ats }, ty, pos, after, gu⟩ env H R := by
  refine ⟨fun K β a w Kc Q hw hx hk hn hp => ?_⟩
  have hmX : X ∈ (Op.call { callee := .value X, args := as_.toArray, argTypes := ats }).operands := by simp [Op.operands, Call.operands]
  obtain ⟨us, eX, lu, du⟩ := fnD_frz hX (hx X hmX)
  have hcs : ∀ d ∈ cs, OkD H d := by
    rcases hX with h | ⟨_, rfl⟩
    · have := hk X hmX
      rw [h] at this
      cases this with
      | fn _ _ h => exact h
    · simp
  have hrun : (execOp a.eval ⟨dst, .call { callee := .value X, args := as_.toArray, argTypes := ats }, ty, pos, after, gu⟩).run P w = .ok (.enter f (as_.map a.eval ++ us).toArray) w := by
    simp [execOp, resolve, eX, Deferred.ofValue, invoke, hc.run]
  have hmem : ∀ x ∈ as_, x ∈ (Op.call { callee := .value X, args := as_.toArray, argTypes := ats }).operands := fun x h => by simp [Op.operands, Call.operands, h]
  obtain ⟨h1, h2, h3⟩ := args_rd (H := H) he (fun x h => hx x (hmem x h)) fun x h => hk x (hmem x h)
  refine callM_core hf hw hrun (by simp [lu]; simpa using h1) (fun j v d hv hd => ?_) (fun d hd => ?_) hn hp
  · by_cases hj : j < (as_.map a.eval).length
    · rw [List.getElem?_append_left hj] at hv
      rw [List.getElem?_append_left (by omega)] at hd
      exact h2 j v d hv hd
    · rw [List.getElem?_append_right (by omega)] at hv
      rw [List.getElem?_append_right (by omega), ← h1] at hd
      exact du _ v d hv hd
  · rcases List.mem_append.1 hd with h | h
    · exact h3 d h
    · exact hcs d h
/-- A function of data is one that has all and leaves it. -/
theorem Fun.m {f : FuncId} {ds : List D} {Q : D → Prop} (h : Fun P f ds Q) (hp : PureAll ds) (H : Heap) : FunM P f ds H fun o H' => ∃ d, o = .ret d ∧ H' = H ∧ Q d := by
  intro K β w vs hw hl hv _
  refine (h K w vs hl (fun j v d h1 h2 => ((hv j v d h1 h2).down (hp.at d (List.mem_of_getElem? h2))).pure rfl) hw.holds).mono fun e w' ⟨v, d, K', h1, h2, h3, h4, h5, h6⟩ => ?_
  have hws := hw.ext h3.le (fun b c hb => (h3.new b c hb).imp id fun h => h.elim id False.elim) h4 h6
  exact ⟨v, d, K', β, H, ⟨h3.mono (bare_owns hw.size), Agr.refl _ _, HLe.refl _⟩, hws, (h5.pure rfl).up rfl, h5.okp rfl, .inl ⟨h1, d, rfl, rfl, h2⟩⟩
/-- From outcomes to one. -/
theorem OpX.d {o : Oper} {d : D} {H' : Heap} (h : OpX P C o env H fun x H'' => x = .ret d ∧ H'' = H') (hl : HLe H H') : OpD P C o env H d H' :=
  ⟨hl, fun K β a w Kc Q hw hx hk hn => h.go K β a w Kc Q hw hx hk (fun K' β' v w' d' H'' hR he hw' hv ho => by
    obtain ⟨h1, rfl⟩ := hR
    cases h1
    exact hn K' β' v w' he.kx he.ag hw' hv ho) fun K' β' v w' d' H'' hR _ _ _ _ => by cases hR.1⟩
theorem OpX.mono {o : Oper} {R R' : DOut → Heap → Prop} (h : OpX P C o env H R) (hr : ∀ d H', R d H' → R' d H') : OpX P C o env H R' :=
  ⟨fun K β a w Kc Q hw hx hk hn hp => h.go K β a w Kc Q hw hx hk (fun K' β' v w' d H' hR => hn K' β' v w' d H' (hr _ _ hR)) fun K' β' v w' d H' hR => hp K' β' v w' d H' (hr _ _ hR)⟩
/-- A call of a function of data through a slot. -/
theorem o_callV {f : FuncId} {as_ : List Operand} {ats : Array TypeId} {cs ds : List D} {d : D} (hX : FnIs (ev env X) f cs) (hc : Callee P f) (hf : Fun P f (ds ++ cs) (· = d)) (he : ArgsAre env as_ ds) (hp : PureAll (ds ++ cs)) :
    OpD P C ⟨dst, .call { callee := .value X, args := as_.toArray, argTypes := ats }, ty, pos, after, gu⟩ env H d H :=
  ((x_callV hX hc (hf.m hp H) he).mono fun _ _ ⟨_, h1, h2, h3⟩ => ⟨h3 ▸ h1, h2⟩).d (HLe.refl _)
end

/-! ### Code: scopes, labels; loops whose blocks are told from those at the entry -/
section
variable {P : Program} {C : Ctx} {N : Nat} {s : St} {Q : DX → St → Prop}
def noGo (Q : DX → St → Prop) : DX → St → Prop
  | .goto _, _ => False
  | e, s => Q e s
end

/-! ### Blocks held for good from here on -/
theorem WS.hold' {C : Ctx} {K : Mem} {β : Nat → Nat → BT} {H : Heap} {w : World} (h : WS C K β H w) {id : Nat} {b : Blk} (hb : H[id]? = some (some b)) (hr : (β id b.ver).real = true) {o : Obj} (hc : w.heap[(β id b.ver).blk]? = some o) : WS C (K.add (β id b.ver).blk o) β (H.set id none) w := by
  have hid : id < H.length := (List.getElem?_eq_some_iff.1 hb).1
  have split : ∀ {i : Nat} {x : Blk}, (H.set id none)[i]? = some (some x) → i ≠ id ∧ H[i]? = some (some x) := by
    intro i x hx
    rw [List.getElem?_set] at hx
    by_cases e : id = i
    · rw [if_pos e, if_pos hid] at hx; cases hx
    · rw [if_neg e] at hx; exact ⟨Ne.symm e, hx⟩
  have hne : ∀ {i : Nat} {x : Blk}, H[i]? = some (some x) → (β i x.ver).real = true → i ≠ id → (β i x.ver).blk ≠ (β id b.ver).blk := fun hx hri hi he => hi (h.inj _ _ _ _ hx hb hri hr he)
  have hle : Mem.le K (K.add (β id b.ver).blk o) := Mem.le_add (h.apart id b hb hr)
  refine ⟨fun b' c' hc' => ?_, fun i x hx => ?_, fun i x hx d hd => ?_, fun i j x y hx hy hri hrj he => ?_, fun i x hx hri => ?_, fun i x hx hri => ?_, h.size, h.below, h.agr, h.hle.trans (HLe.kill _ _), h.kle.trans hle⟩
  · unfold Mem.add at hc'
    by_cases he : b' = (β id b.ver).blk
    · rw [if_pos he] at hc'; cases hc'; subst he; exact hc
    · rw [if_neg he] at hc'; exact h.holds b' c' hc'
  · obtain ⟨hi, hx⟩ := split hx
    exact (h.blk i x hx).mono hle (h.ok i x hx) (Agr.refl _ _)
  · obtain ⟨hi, hx⟩ := split hx
    exact (h.ok i x hx d hd).mono (HLe.kill _ _)
  · obtain ⟨_, hx⟩ := split hx
    obtain ⟨_, hy⟩ := split hy
    exact h.inj i j x y hx hy hri hrj he
  · obtain ⟨hi, hx⟩ := split hx
    unfold Mem.add
    rw [if_neg (hne hx hri hi)]
    exact h.apart i x hx hri
  · obtain ⟨_, hx⟩ := split hx
    exact h.base i x hx hri
/-- What a datum that names block id alone reads as_, when that block stays as_ it is: its cells are pure. -/
inductive Frz1 (id : Nat) (b : Blk) : D → D → Prop
  | own (off n sz : Nat) (ds : List D) (h : (b.cs.drop off).take ds.length = ds) : Frz1 id b (.own id b.ver off n sz) (.rd n ds)
  | ptr (off : Nat) : Frz1 id b (.ptr id b.ver off) (.adr (b.cs.drop off))
def Frz1L (id : Nat) (b : Blk) (env : Nat → D) : List (Nat × D) → Prop
  | [] => True
  | (k, d) :: l => Frz1 id b (env k) d ∧ Frz1L id b env l
theorem Frz1L.at {id : Nat} {b : Blk} {env : Nat → D} : ∀ {l : List (Nat × D)}, Frz1L id b env l → ∀ p ∈ l, Frz1 id b (env p.1) p.2
  | [], _, p, hp => by cases hp
  | (k, d) :: l, h, p, hp => by
    rcases List.mem_cons.1 hp with rfl | hp
    · exact h.1
    · exact h.2.at p hp
theorem WS.frz1 {C : Ctx} {K : Mem} {β : Nat → Nat → BT} {H : Heap} {w : World} (h : WS C K β H w) {id : Nat} {b : Blk} (hb : H[id]? = some (some b)) (hp : ∀ c ∈ b.cs, Pure' c) : ∃ K', KX C K K' ∧ WS C K' β (H.set id none) w ∧ ∀ v d d', DR K β true v d → Frz1 id b d d' → DR K' β true v d' := by
  cases hs : (β id b.ver).st with
  | none =>
    have h0 := h.nil hb hs
    have hle : Mem.le K K := Mem.le.refl K
    have hid : id < H.length := (List.getElem?_eq_some_iff.1 hb).1
    have split : ∀ {i : Nat} {x : Blk}, (H.set id none)[i]? = some (some x) → i ≠ id ∧ H[i]? = some (some x) := by
      intro i x hx
      rw [List.getElem?_set] at hx
      by_cases e : id = i
      · rw [if_pos e, if_pos hid] at hx; cases hx
      · rw [if_neg e] at hx; exact ⟨Ne.symm e, hx⟩
    refine ⟨K, KX.refl _ _, ⟨h.holds, fun i x hx => h.blk i x (split hx).2, fun i x hx d hd => (h.ok i x (split hx).2 d hd).mono (HLe.kill _ _), fun i j x y hx hy => h.inj i j x y (split hx).2 (split hy).2, fun i x hx => h.apart i x (split hx).2, fun i x hx => h.base i x (split hx).2, h.size, h.below, h.agr, h.hle.trans (HLe.kill _ _), h.kle⟩, fun v d d' hv hz => ?_⟩
    cases hz with
    | own off n sz ds hds =>
      rw [h0] at hds
      have hds0 : ds = [] := by rw [← hds]; simp
      subst hds0
      rcases hv.own_inv with ⟨c, _, _, _, _, hr⟩ | ⟨rfl, rfl, rfl, hr⟩
      · rw [hs] at hr; cases hr
      · exact .rd _ none 0 0 [] [] (Nat.le_refl _) rfl (by simp) (by simp)
    | ptr off => have := hv.ptr_inv.2; rw [hs] at this; cases this
  | map =>
    obtain ⟨es, ck, hh, _⟩ := h.mapd hb hs
    have hr := BT.real_ofm hs
    have hle : Mem.le K (K.add (β id b.ver).blk (.map es ck)) := Mem.le_add (h.apart id b hb hr)
    refine ⟨_, ⟨hle, fun b' c' hb' => ?_⟩, h.hold' hb hr hh, fun v d d' hv hz => ?_⟩
    · unfold Mem.add at hb'
      by_cases hbb : b' = (β id b.ver).blk
      · subst hbb; exact .inr (h.base id b hb hr)
      · rw [if_neg hbb] at hb'; exact .inl hb'
    · cases hz with
      | own off n sz ds hds => rcases hv.own_inv with ⟨c, _, _, _, _, hr⟩ | ⟨_, _, _, hr⟩ <;> (rw [hs] at hr; cases hr)
      | ptr off => have := hv.ptr_inv.2; rw [hs] at this; cases this
  | cells =>
    obtain ⟨us, rest, hh, hl, _, _, hd⟩ := h.real hb hs
    have hr := BT.real_of hs
    have hle : Mem.le K (K.add (β id b.ver).blk (.cells (us ++ rest).toArray b.e (0, 0))) := Mem.le_add (h.apart id b hb hr)
    have hcell : ∀ (off j : Nat) u, us[off + j]? = some u → (K.add (β id b.ver).blk (.cells (us ++ rest).toArray b.e (0, 0))).cell ((⟨(β id b.ver).blk, off, none⟩ : Addr).add j) = some u := by
      intro off j u hu
      rw [add_lit]
      unfold Mem.cell Mem.add
      simp only [if_true, Option.isSome_none, Bool.false_eq_true, if_false, List.getElem?_toArray]
      rw [List.getElem?_append_left (List.getElem?_eq_some_iff.1 hu).1]; exact hu
    have hdd : ∀ (j : Nat) u d, us[j]? = some u → b.cs[j]? = some d → DR (K.add (β id b.ver).blk (.cells (us ++ rest).toArray b.e (0, 0))) β false u d := fun j u d hu hc =>
      ((hd j u d hu hc).down (hp d (List.mem_of_getElem? hc))).mono (H := []) hle (by intro h; cases h) (Agr.refl _ _)
    refine ⟨_, ⟨hle, fun b' c' hb' => ?_⟩, h.hold' hb hr hh, fun v d d' hv hz => ?_⟩
    · unfold Mem.add at hb'
      by_cases hbb : b' = (β id b.ver).blk
      · subst hbb; exact .inr (h.base id b hb hr)
      · rw [if_neg hbb] at hb'; exact .inl hb'
    · cases hz with
      | own off n sz ds hds =>
        have hlen : ((b.cs.drop off).take ds.length).length = ds.length := by rw [hds]
        rw [List.length_take, List.length_drop] at hlen
        rcases hv.own_inv with ⟨c, rfl, hn, _, _, _⟩ | ⟨_, _, _, hr⟩
        · refine .rd _ _ n c ((us.drop off).take ds.length) ds hn (by rw [List.length_take, List.length_drop, hl]; omega) (fun j u hu => ⟨_, rfl, ?_⟩) fun j u d hu hd' => ?_
          · rw [List.getElem?_take] at hu
            split at hu
            · rw [List.getElem?_drop] at hu; exact hcell off j u hu
            · cases hu
          · rw [List.getElem?_take] at hu
            split at hu
            · rename_i hj
              rw [List.getElem?_drop] at hu
              rw [← hds, List.getElem?_take, if_pos hj, List.getElem?_drop] at hd'
              exact hdd _ u d hu hd'
            · cases hu
        · rw [hs] at hr; cases hr
      | ptr off =>
        obtain ⟨rfl, _⟩ := hv.ptr_inv
        refine .adr _ _ (us.drop off) _ (by simp [hl]) (fun j u hu => ?_) fun j u d hu hd' => ?_
        · rw [List.getElem?_drop] at hu; exact hcell off j u hu
        · rw [List.getElem?_drop] at hu hd'; exact hdd _ u d hu hd'
theorem Frz1.ok {id : Nat} {b : Blk} {d d' : D} (h : Frz1 id b d d') (H : Heap) : OkD H d' := by
  cases h with
  | own => exact .rd _ _
  | ptr => exact .adr _
/-- From here on block id stays as_ it is: the slots of L read as_ data that nobody changes. -/
theorem WC.frz {P : Program} {C : Ctx} {N : Nat} {s : St} {Q : DX → St → Prop} {c : Code} (id : Nat) (b : Blk) (L : List (Nat × D)) (hb : s.H[id]? = some (some b)) (hp : ∀ c ∈ b.cs, Pure' c) (hL : Frz1L id b s.env L) (h : WC P C N c ⟨updL s.env L, s.H.set id none⟩ Q) : WC P C N c s Q := by
  intro K β a w hs
  obtain ⟨K', hK, hw, hz⟩ := hs.ws.frz1 hb hp
  have hs' : SR C N K' β ⟨updL s.env L, s.H.set id none⟩ a w := by
    refine ⟨hw, hs.size, hs.defers.mono hK.le, fun t => ?_, fun t => ?_⟩
    all_goals
      simp only
      rcases updL_at s.env L t with ⟨p, hp, rfl, h2⟩ | ⟨_, h2⟩
    · rw [h2]; exact hz _ _ _ (hs.rd p.1) (hL.at p hp)
    · rw [h2]; exact (hs.rd t).mono hK.le (fun _ => hs.ok t) (Agr.refl _ _)
    · rw [h2]; exact (hL.at p hp).ok _
    · rw [h2]; exact (hs.ok t).mono (HLe.kill _ _)
  exact wpIn_mono (h K' β a w hs') fun e a' w' hA => hA.mono ⟨hK, Agr.refl _ _, HLe.kill _ _⟩ fun _ _ h => h
end Go.DL
namespace Go.DL
open Go.RowKit

section
variable {P : Program} {C : Ctx} {env : Nat → D} {H H' : Heap} {dst : Option Nat} {ty t t' e : TypeId} {pos : String} {after : Array Edge} {gu : Option (Nat × Bool)} {X Y Z : Operand}

/-! ### Rows that are just as_ long as_ told: version and length are one number -/
abbrev tb (e : TypeId) (n : Nat) (cs : List D) : Option Blk := some ⟨cs, e, true, n⟩
abbrev ow (id n sz : Nat) : D := .own id n 0 n sz
theorem OpD.newR {o : Oper} {d : D} (b : Blk) (hg : b.grow = true) (hok : OkD (H ++ [some b]) d)
    (h : ∀ K β (a : Act) (w : World), WS C K β H w → (∀ x ∈ o.op.operands, DR K β true (a.eval x) (ev env x)) → (∀ x ∈ o.op.operands, OkD H (ev env x)) →
      ∃ (us rest : List Value) (v : Value), (execOp a.eval o).run P w = .ok (.value v) (w.alloc (.cells (us ++ rest).toArray b.e)) ∧ us.length = b.cs.length ∧ (∀ (j : Nat) u d, us[j]? = some u → b.cs[j]? = some d → DR K β true u d) ∧ (∀ c ∈ b.cs, OkD H c) ∧
        (∀ β' : Nat → Nat → BT, β' H.length b.ver = ⟨w.heap.size, us.length + rest.length, .cells⟩ → DR K β' true v d)) : OpD P C o env H d (H ++ [some b]) :=
  OpD.of (HLe.app _ _) fun K β a w hw hx hk => by
    obtain ⟨us, rest, v, hr, h1, h2, h3, h4⟩ := h K β a w hw hx hk
    exact ⟨K, _, v, _, hr, KX.refl _ _, addB_agr, hw.new us rest b h1 (fun h => by rw [hg] at h; cases h) h2 h3, h4 _ addB_at, hok⟩
theorem mod_bang {α : Type} [Inhabited α] (z : Array α) (hz : 0 < z.size) (j : Nat) (u : α) : z[j % z.size]! = z.toList.getD (j % z.size) u := by
  have h : j % z.size < z.size := Nat.mod_lt _ hz
  rw [getElem!_pos z _ h, List.getD_eq_getElem?_getD, Array.getElem?_toList, Array.getElem?_eq_getElem h]; rfl
/-- A slice made: so many zero elements; more may lie behind. -/
theorem o_makeT {zv : Value} {sz bytes : Nat} {kl kc : IntKind} {l c : Int} (ver ln cn : Nat) (hx : ev env X = .v (.int kl l)) (hy : ev env Y = .v (.int kc c)) (ht : P.underlying t = some (.slice e)) (hi : (P.info? e).map (fun i => (i.zero, i.size, i.bytes)) = some (some zv, sz, bytes)) (hz : zv.cells.size = sz) (hp : Nat.blt 0 sz = true)
    (hl : l = ln) (hc : c = cn) (hlc : ln ≤ cn) (hb : bytes * cn ≤ 281474976710656) (hm : cn ≤ 9223372036854775807) :
    OpD P C ⟨dst, .makeSlice t X Y, ty, pos, after, gu⟩ env H (.own H.length ver 0 ln sz) (H ++ [some ⟨(zeros zv (ln * sz) sz).map D.v, e, true, ver⟩]) := by
  have hp : 0 < sz := by simpa [Nat.blt_eq] using hp
  subst hl hc
  obtain ⟨i, h1, h2, h3, h4⟩ := info_parts hi
  refine OpD.newR _ rfl (.own _ _ _ _ _ (okV_new _ _)) fun K β a w hw h hk => ?_
  have e1 := h X (by simp [Op.operands])
  have e2 := h Y (by simp [Op.operands])
  rw [hx] at e1; rw [hy] at e2
  have hb' : (i.bytes : Int) * (cn : Int) ≤ 281474976710656 := by
    have h : ((i.bytes * cn : Nat) : Int) ≤ 281474976710656 := by rw [h4]; omega
    rwa [Int.natCast_mul] at h
  have hrun := run_make (P := P) w t e i zv ht h1 h2 kl kc ln cn (by omega) (by omega) hb' (by omega)
  rw [h3] at hrun
  have hsplit : (madeCells zv.cells (cn * sz)).toList = zeros zv (ln * sz) sz ++ (madeCells zv.cells (cn * sz)).toList.drop (ln * sz) := by
    conv => lhs; rw [← List.take_append_drop (ln * sz) (madeCells zv.cells (cn * sz)).toList]
    congr 1
    have hle : ln * sz ≤ cn * sz := Nat.mul_le_mul_right _ hlc
    apply List.ext_getElem?
    intro j
    unfold madeCells zeros
    by_cases hj : j < ln * sz
    · rw [List.getElem?_take, if_pos hj, Array.toList_map, List.getElem?_map, List.getElem?_map, Array.toList_range, List.getElem?_range (by omega), List.getElem?_range hj]
      simp only [Option.map_some]
      rw [mod_bang zv.cells (by omega) j undef, hz]
    · rw [List.getElem?_take, if_neg hj, List.getElem?_eq_none (by simp; omega)]
  have hcells : madeCells zv.cells (cn * sz) = (zeros zv (ln * sz) sz ++ (madeCells zv.cells (cn * sz)).toList.drop (ln * sz)).toArray := by rw [← hsplit]
  simp only [Int.toNat_natCast] at hrun
  rw [hcells] at hrun
  refine ⟨zeros zv (ln * sz) sz, (madeCells zv.cells (cn * sz)).toList.drop (ln * sz), .slice (some ⟨w.heap.size, 0, none⟩) ln cn, ?_, by simp, zeros_dr _, fun d hd => by obtain ⟨u, _, rfl⟩ := List.mem_map.1 hd; exact .v _, fun β' hβ => ?_⟩
  · simp only [execOp, e1.v_inv, e2.v_inv, Sem.run_bind, hrun, Result.andThen_ok, Sem.run_pure]
  · have hlen : (zeros zv (ln * sz) sz ++ (madeCells zv.cells (cn * sz)).toList.drop (ln * sz)).length = cn * sz := by rw [← hsplit]; simp [size_madeCells]
    have hr := DR.own (K := K) (β := β') H.length ver 0 ln sz cn hlc hm (by rw [hβ]; rw [List.length_append] at hlen; simp only; omega) (by rw [hβ])
    rwa [hβ] at hr
/-- A row of the call's own that is nil as_ yet. -/
theorem o_nil (e sz : Nat) : OpD P C ⟨dst, .assign (.const (.slice none 0 0)), ty, pos, after, gu⟩ env H (ow H.length 0 sz) (H ++ [tb e 0 []]) := by
  refine OpD.of (HLe.app _ _) fun K β a w hw _ _ => ⟨K, _, .slice none 0 0, w, rfl, KX.refl _ _, addB_agr, hw.newNil e, .own0 _ _ _ (by rw [addB_at]), .own _ _ _ _ _ (okV_new _ _)⟩
theorem append_nothing {K : Mem} {β : Nat → Nat → BT} {w : World} {id ver off n sz bytes : Nat} (E : Elem P t e sz bytes) {v : Value} (hv : DR K β true v (.own id ver off n sz)) (A : Option Addr) (c : Nat) : (Builtin.append_ #[t, t] ty #[v, .slice A 0 c]).run P w = .ok v w := by
  obtain ⟨i, z, hi, hz, hsz, hbs, hzs⟩ := E.inf
  obtain ⟨A', c', rfl, hc⟩ := hv.own_len
  cases A with
  | none => cases A' <;> simp [Builtin.append_, run_underlying E.ut, sizeOf, typeInfo, hi, Builtin.lenOf, Builtin.firstCells, hc, storeCells]
  | some ad => cases A' <;> simp [Builtin.append_, run_underlying E.ut, sizeOf, typeInfo, hi, Builtin.lenOf, Builtin.firstCells, hc, storeCells, loadCells, loadCellsFrom]
/-- An append onto a row that is just as_ long as_ told. -/
theorem o_appT {id n sz bytes m : Nat} {cs cs' : List D} (E : Elem P t e sz bytes) (hx : ev env X = ow id n sz) (hy : ev env Y = .rd m cs') (hb : H[id]? = some (tb e n cs)) (hn : cs.length = n * sz) (hm : cs'.length = m * sz) (h1 : ∀ d ∈ cs', oneD d = true)
    (h63 : n + m ≤ 9223372036854775807) (hby : (n + m) * bytes ≤ 140737488355328) :
    OpD P C ⟨dst, .call { callee := .builtin .append, args := #[X, Y], argTypes := #[t, t] }, ty, pos, after, gu⟩ env H (ow id (n + m) sz) (H.set id (tb e (n + m) (cs ++ cs'))) := by
  cases m with
  | zero =>
    have h0 : cs' = [] := List.eq_nil_of_length_eq_zero (by simpa using hm)
    subst h0
    have hid : id < H.length := (List.getElem?_eq_some_iff.1 hb).1
    have hH : H.set id (tb e (n + 0) (cs ++ [])) = H := by
      rw [List.append_nil, Nat.add_zero]
      apply List.ext_getElem?
      intro j
      rw [List.getElem?_set]
      by_cases h : id = j
      · subst h; rw [if_pos rfl, if_pos hid, hb]
      · rw [if_neg h]
    rw [hH]
    refine OpD.same fun K β ac w hw h hk => ?_
    have hxv := h X (by simp [Op.operands, Call.operands])
    have hyv := h Y (by simp [Op.operands, Call.operands])
    have hxk := hk X (by simp [Op.operands, Call.operands])
    rw [hx] at hxv hxk; rw [hy] at hyv
    obtain ⟨A, c, us, e1, _⟩ := hyv.rd_inv
    refine ⟨ac.eval X, ?_, hxv, hxk⟩
    have := append_nothing (ty := ty) (w := w) E hxv A c
    simp only [execOp, resolve, List.map_toArray, List.map_cons, List.map_nil, e1, invoke, builtin, Sem.run_bind, Sem.run_pure, Result.andThen_ok, this]
  | succ m =>
    have := o_append_rdv (P := P) (C := C) (dst := dst) (ty := ty) (pos := pos) (after := after) (gu := gu) (n + (m + 1)) E hx hy hb rfl rfl (by omega) (by rw [hn]; exact Nat.le_refl _) hm h1 h63 hby
    rwa [show (Blk.cs ⟨cs, e, true, n⟩).take (n * sz) = cs by rw [← hn]; exact List.take_length] at this
/-- An append onto nil. -/
theorem o_appN {sz bytes m : Nat} {cs' : List D} (E : Elem P t e sz bytes) (hx : ev env X = .v (.slice none 0 0)) (hy : ev env Y = .rd m cs') (hm : cs'.length = m * sz) (h1 : ∀ d ∈ cs', oneD d = true)
    (h63 : m ≤ 9223372036854775807) (hby : m * bytes ≤ 140737488355328) :
    OpD P C ⟨dst, .call { callee := .builtin .append, args := #[X, Y], argTypes := #[t, t] }, ty, pos, after, gu⟩ env H (ow H.length m sz) (H ++ [tb e m cs']) := by
  refine OpD.of (HLe.app _ _) fun K β ac w hw h hk => ?_
  have hxv := h X (by simp [Op.operands, Call.operands])
  have hyv := h Y (by simp [Op.operands, Call.operands])
  have hyk := hk Y (by simp [Op.operands, Call.operands])
  rw [hx] at hxv; rw [hy] at hyv
  obtain ⟨A, c, us, e1, hmc, hlen, hc, hd⟩ := hyv.rd_inv
  have hw' := hw.newNil e
  have hat : (addB β H.length 0 ⟨0, 0, .none⟩) H.length 0 = ⟨0, 0, .none⟩ := addB_at
  have hb : (H ++ [some (⟨[], e, true, 0⟩ : Blk)])[H.length]? = some (some ⟨[], e, true, 0⟩) := by rw [List.getElem?_append_right (Nat.le_refl _)]; simp
  have hv0 : DR K (addB β H.length 0 ⟨0, 0, .none⟩) true (.slice none 0 0) (.own H.length 0 0 0 sz) := .own0 _ _ _ (by rw [hat])
  rcases Nat.eq_zero_or_pos m with h0 | h0
  · subst h0
    have h0 : cs' = [] := List.eq_nil_of_length_eq_zero (by simpa using hm)
    subst h0
    have hr := append_nothing (ty := ty) (w := w) E hv0 A c
    refine ⟨K, _, .slice none 0 0, w, ?_, KX.refl _ _, addB_agr, hw', hv0, .own _ _ _ _ _ (okV_new _ _)⟩
    simp only [execOp, resolve, List.map_toArray, List.map_cons, List.map_nil, hxv.v_inv, e1, invoke, builtin, Sem.run_bind, Sem.run_pure, Result.andThen_ok, hr]
  obtain ⟨u', w', t', hrun, hws, hdr⟩ := append_core (P := P) (ty := ty) (cs' := cs') (v' := m) (m := m) E hw' hv0 hb rfl rfl h0 (by simp) A c us (by omega) (fun j u hu => let ⟨ad, h1, h2⟩ := hc j u hu; ⟨ad, h1, hw.cell h2⟩) (fun u hu => by
    obtain ⟨j, hj⟩ := List.getElem?_of_mem hu
    have hlt : j < cs'.length := by rw [← hlen]; exact (List.getElem?_eq_some_iff.1 hj).1
    exact oneD.val (hd j u _ hj (List.getElem?_eq_getElem hlt)) (h1 _ (List.getElem_mem hlt))) hlen (fun j u d hu hd' => ((hd j u d hu hd').mono (H := []) (Mem.le.refl K) (by intro h; cases h) (Agr.refl _ _)).pure rfl |>.up rfl) (fun d hd' => by
      obtain ⟨j, hj⟩ := List.getElem?_of_mem hd'
      have hlt : j < us.length := by rw [hlen]; exact (List.getElem?_eq_some_iff.1 hj).1
      exact (hd j _ d (List.getElem?_eq_getElem hlt) hj).okp rfl) (by rw [Nat.zero_add]; exact h63) (by rw [Nat.zero_add]; exact hby)
  have hset : (H ++ [some (⟨[], e, true, 0⟩ : Blk)]).set H.length (some ⟨([] : List D).take (0 * sz) ++ cs', e, true, m⟩) = H ++ [some ⟨cs', e, true, m⟩] := by
    rw [List.set_append_right _ _ (Nat.le_refl _)]; simp
  rw [hset] at hws
  rw [Nat.zero_add] at hdr
  refine ⟨K, _, u', w', ?_, KX.refl _ _, fun i v hv => ?_, hws, hdr, .own _ _ _ _ _ (okV_new _ _)⟩
  · rw [← e1] at hrun
    simp only [execOp, resolve, List.map_toArray, List.map_cons, List.map_nil, hxv.v_inv, invoke, builtin, Sem.run_bind, Sem.run_pure, Result.andThen_ok, hrun]
  · have hi : i ≠ H.length := by have := hv.lt; omega
    rw [addB_ne (.inl hi), addB_ne (.inl hi)]
end
end Go.DL
namespace Go.DL
open Go.RowKit

section
variable {P : Program} {C : Ctx} {env : Nat → D} {H H' : Heap} {dst : Option Nat} {ty t t' e : TypeId} {pos : String} {after : Array Edge} {gu : Option (Nat × Bool)} {X Y Z : Operand} {td : TypeDesc}

/-! ### Places in rows, by number -/
theorem o_ixn_M {α : Type} {l : List α} {g : α → D} {k : IntKind} {i : Int} (n : Nat) (hx : ev env X = .rd l.length (l.map g)) (hy : ev env Y = .v (.int k i)) (ht : P.underlying t = some (.slice e)) (hi : (P.info? e).map (·.size) = some 1) (hn : i = n) (h : n < l.length) :
    OpD P C ⟨dst, .indexAddr t X Y, ty, pos, after, gu⟩ env H (.adr (g l[n] :: (l.drop (n + 1)).map g)) H := by
  subst hn
  refine (o_ix_rd hx hy ht hi (by omega) (by omega) (by simp; omega)).cast ?_
  rw [Int.toNat_natCast, Nat.mul_one, ← List.map_drop, List.drop_eq_getElem_cons h, List.map_cons]
theorem flatMap_drop {α : Type} {f : α → List D} {sz : Nat} (hf : ∀ a, (f a).length = sz) : ∀ (l : List α) (n : Nat), (l.flatMap f).drop (n * sz) = (l.drop n).flatMap f
  | [], n => by simp
  | a :: l, 0 => by simp
  | a :: l, n + 1 => by
    rw [List.flatMap_cons, Nat.succ_mul, Nat.add_comm, ← List.drop_drop, List.drop_left' (hf a), List.drop_succ_cons, flatMap_drop hf l n]
theorem flatMap_len {α : Type} {f : α → List D} {sz : Nat} (hf : ∀ a, (f a).length = sz) : ∀ (l : List α), (l.flatMap f).length = l.length * sz
  | [] => by simp
  | a :: l => by rw [List.flatMap_cons, List.length_append, hf, flatMap_len hf l, List.length_cons, Nat.succ_mul, Nat.add_comm]
theorem flatMap_at {α : Type} {f : α → List D} {sz : Nat} (hf : ∀ a, (f a).length = sz) {l : List α} {n : Nat} (h : n < l.length) : (l.flatMap f).drop (n * sz) = f l[n] ++ (l.drop (n + 1)).flatMap f := by
  rw [flatMap_drop hf, List.drop_eq_getElem_cons h, List.flatMap_cons]
theorem o_ixn_L {α : Type} {l : List α} {f : α → List D} {sz : Nat} {k : IntKind} {i : Int} (n : Nat) (hf : ∀ a, (f a).length = sz) (hp : Nat.blt 0 sz = true) (hx : ev env X = .rd l.length (l.flatMap f)) (hy : ev env Y = .v (.int k i)) (ht : P.underlying t = some (.slice e)) (hi : (P.info? e).map (·.size) = some sz) (hn : i = n) (h : n < l.length) :
    OpD P C ⟨dst, .indexAddr t X Y, ty, pos, after, gu⟩ env H (.adr (f l[n] ++ (l.drop (n + 1)).flatMap f)) H := by
  subst hn
  have hp : 0 < sz := by simpa [Nat.blt_eq] using hp
  have hlt : n * sz < (l.flatMap f).length := by rw [flatMap_len hf]; exact Nat.mul_lt_mul_of_pos_right h hp
  refine (o_ix_rd hx hy ht hi (by omega) (by omega) (by rw [Int.toNat_natCast]; exact hlt)).cast ?_
  rw [Int.toNat_natCast, flatMap_at hf h]
theorem o_ixn_own {id ver off n sz sz' : Nat} {k : IntKind} {i : Int} (j : Nat) (hx : ev env X = .own id ver off n sz') (hy : ev env Y = .v (.int k i)) (ht : P.underlying t = some (.slice e)) (hi : (P.info? e).map (·.size) = some sz) (hn : i = j) (h : j < n) :
    OpD P C ⟨dst, .indexAddr t X Y, ty, pos, after, gu⟩ env H (.ptr id ver (off + j * sz)) H := by
  subst hn
  exact (o_ix_own hx hy ht hi (by omega) (by omega)).cast (by rw [Int.toNat_natCast])
/-- A struct or an array of a row that stays. -/
theorem o_load_adr_L {xs tl : List D} {n : Nat} (hx : ev env X = .adr (xs ++ tl)) (ht : P.underlying t = some td) (hf : flat td = false) (hi : (P.info? t).map (·.size) = some n) (hn : xs.length = n) : OpD P C ⟨dst, .load t X, ty, pos, after, gu⟩ env H (.agg xs) H :=
  (o_load_adr_agg hx ht hf hi (by simp; omega)).cast (by rw [List.take_left' hn])
theorem o_load_ptr_L {id ver off n : Nat} {b : Blk} {xs : List D} (hx : ev env X = .ptr id ver off) (ht : P.underlying t = some td) (hf : flat td = false) (hi : (P.info? t).map (·.size) = some n) (hb : H[id]? = some (some b)) (hv : b.ver = ver) (hn : Nat.ble (off + n) b.cs.length = true) (hxs : (b.cs.drop off).take n = xs) : OpD P C ⟨dst, .load t X, ty, pos, after, gu⟩ env H (.agg xs) H :=
  (o_load_ptr_agg hx ht hf hi hb hv (Nat.le_of_ble_eq_true hn)).cast (by rw [hxs])

/-! ### Copies -/
/-! ### Strings -/
abbrev S (l : List UInt8) : D := .v (.string (strB l))
theorem strB_size (l : List UInt8) : (strB l).size = l.length := by simp [ByteArray.size]
end
end Go.DL
namespace Go.DL
open Go.RowKit

abbrev B8 (b : UInt8) : D := .v (.int .u8 (b.toNat : Int))
section
variable {P : Program} {C : Ctx} {env : Nat → D} {H H' : Heap} {dst : Option Nat} {ty t t' e : TypeId} {pos : String} {after : Array Edge} {gu : Option (Nat × Bool)} {X Y Z : Operand} {td : TypeDesc}

/-! ### 64 bits -/
/-! ### Bytes -/
/-! ### Numbers with a sign: what comparisons tell -/
theorem o_eqI {k : IntKind} {a b : Int} (hx : ev env X = .v (.int k a)) (hy : ev env Y = .v (.int k b)) : OpD P C ⟨dst, .binOp .eql t X Y t', ty, pos, after, gu⟩ env H (.v (.bool (decide (a = b)))) H :=
  (o_bin (.bool (a == b)) hx hy (by cases k <;> rfl)).cast (v_bool (by rw [Bool.eq_iff_iff]; simp))
theorem o_neI {k : IntKind} {a b : Int} (hx : ev env X = .v (.int k a)) (hy : ev env Y = .v (.int k b)) : OpD P C ⟨dst, .binOp .neq t X Y t', ty, pos, after, gu⟩ env H (.v (.bool (decide (a ≠ b)))) H :=
  (o_bin (.bool (a != b)) hx hy (by cases k <;> rfl)).cast (v_bool (by rw [Bool.eq_iff_iff]; simp))
theorem o_ltI {k : IntKind} {a b : Int} (hx : ev env X = .v (.int k a)) (hy : ev env Y = .v (.int k b)) : OpD P C ⟨dst, .binOp .lss t X Y t', ty, pos, after, gu⟩ env H (.v (.bool (decide (a < b)))) H := o_bin _ hx hy (by cases k <;> rfl)
theorem o_leI {k : IntKind} {a b : Int} (hx : ev env X = .v (.int k a)) (hy : ev env Y = .v (.int k b)) : OpD P C ⟨dst, .binOp .leq t X Y t', ty, pos, after, gu⟩ env H (.v (.bool (decide (a ≤ b)))) H := o_bin _ hx hy (by cases k <;> rfl)
theorem o_gtI {k : IntKind} {a b : Int} (hx : ev env X = .v (.int k a)) (hy : ev env Y = .v (.int k b)) : OpD P C ⟨dst, .binOp .gtr t X Y t', ty, pos, after, gu⟩ env H (.v (.bool (decide (a > b)))) H := o_bin _ hx hy (by cases k <;> rfl)
theorem o_geI {k : IntKind} {a b : Int} (hx : ev env X = .v (.int k a)) (hy : ev env Y = .v (.int k b)) : OpD P C ⟨dst, .binOp .geq t X Y t', ty, pos, after, gu⟩ env H (.v (.bool (decide (a ≥ b)))) H := o_bin _ hx hy (by cases k <;> rfl)

/-! ### Tables -/
end
end Go.DL
