/-
  A logic of data for the walks: what slots hold is told as data (numbers, slices that nobody changes, blocks of the call's own), not as memory. Plain lemmas over any program; no condition.
-/
import Derived.WalkKit
import Derived.RegionTactic
import Derived.Below
import Derived.Laws.Rows
namespace Go.DL
open Go.RowKit

theorem sz_of {P : Program} {e : TypeId} {z : Option Value} {n b : Nat} (h : (P.info? e).map (fun i => (i.zero, i.size, i.bytes)) = some (z, n, b)) : (P.info? e).map (·.size) = some n := by
  obtain ⟨i, h1, h2⟩ := Option.map_eq_some_iff.1 h
  cases h2
  rw [h1]; rfl
theorem z_of {P : Program} {e : TypeId} {z : Option Value} {n b : Nat} (h : (P.info? e).map (fun i => (i.zero, i.size, i.bytes)) = some (z, n, b)) : (P.info? e).map (·.zero) = some z := by
  obtain ⟨i, h1, h2⟩ := Option.map_eq_some_iff.1 h
  cases h2
  rw [h1]; rfl
inductive D where
  | any
  | v (x : Value)
  | agg (cs : List D)
  | tup (ds : List D)
  | rd (n : Nat) (cs : List D)
  | adr (cs : List D)
  | own (id ver off n sz : Nat)
  | ptr (id ver off : Nat)

abbrev Mem := Nat → Option (Array Value)
def Mem.cell (K : Mem) (a : Addr) : Option Value := match K a.block with | some c => if a.spot.isSome then none else c[a.off]? | none => none
def Mem.le (K K' : Mem) : Prop := ∀ b c, K b = some c → K' b = some c
theorem Mem.le.refl (K : Mem) : Mem.le K K := fun _ _ h => h
theorem Mem.le.trans {K K' K'' : Mem} (h : Mem.le K K') (h' : Mem.le K' K'') : Mem.le K K'' := fun b c x => h' b c (h b c x)
theorem Mem.le.cell {K K' : Mem} (h : Mem.le K K') {a : Addr} {u : Value} (hu : K.cell a = some u) : K'.cell a = some u := by
  unfold Mem.cell at *
  cases hk : K a.block with
  | none => simp [hk] at hu
  | some c => rw [h _ _ hk]; simpa [hk] using hu

/-- Where a block of the call's own lies, and how many cells it has in all; not 'real': there is none yet (a slice that is nil). -/
structure BT where
  blk : Nat
  tot : Nat
  real : Bool

/-- A value reads as a datum; 'm': may it name blocks of the call's own? -/
inductive DR (K : Mem) (β : Nat → Nat → BT) : Bool → Value → D → Prop
  | any (m) (x) : DR K β m x .any
  | v (m) (x) : DR K β m x (.v x)
  | agg (m) (us : List Value) (cs : List D) (hl : us.length = cs.length) (hd : ∀ (j : Nat) u d, us[j]? = some u → cs[j]? = some d → DR K β m u d) : DR K β m (.agg us.toArray) (.agg cs)
  | tup (m) (us : List Value) (cs : List D) (hl : us.length = cs.length) (hd : ∀ (j : Nat) u d, us[j]? = some u → cs[j]? = some d → DR K β m u d) : DR K β m (.tuple us.toArray) (.tup cs)
  | rd (m) (A : Option Addr) (n c : Nat) (us : List Value) (cs : List D) (hn : n ≤ c) (hl : us.length = cs.length)
      (hc : ∀ (j : Nat) u, us[j]? = some u → ∃ ad, A = some ad ∧ K.cell (ad.add j) = some u)
      (hd : ∀ (j : Nat) u d, us[j]? = some u → cs[j]? = some d → DR K β false u d) : DR K β m (.slice A n c) (.rd n cs)
  | adr (m) (ad : Addr) (us : List Value) (cs : List D) (hl : us.length = cs.length)
      (hc : ∀ (j : Nat) u, us[j]? = some u → K.cell (ad.add j) = some u)
      (hd : ∀ (j : Nat) u d, us[j]? = some u → cs[j]? = some d → DR K β false u d) : DR K β m (.pointer (some ad)) (.adr cs)
  | own (id ver off n sz c : Nat) (hn : n ≤ c) (hm : c ≤ maxLen) (hc : off + c * sz = (β id ver).tot) (hr : (β id ver).real = true) : DR K β true (.slice (some ⟨(β id ver).blk, off, none⟩) n c) (.own id ver off n sz)
  | own0 (id ver sz : Nat) (hr : (β id ver).real = false) : DR K β true (.slice none 0 0) (.own id ver 0 0 sz)
  | ptr (id ver off : Nat) (hr : (β id ver).real = true) : DR K β true (.pointer (some ⟨(β id ver).blk, off, none⟩)) (.ptr id ver off)

structure Blk where
  cs : List D
  e : TypeId
  grow : Bool
  ver : Nat
abbrev Heap := List (Option Blk)
/-- Block id has come to version v. -/
def okV (H : Heap) (id v : Nat) : Prop := match H[id]? with
  | some (some b) => v ≤ b.ver
  | some none => True
  | none => False
def HLe (H H' : Heap) : Prop := ∀ id v, okV H id v → okV H' id v
theorem HLe.refl (H : Heap) : HLe H H := fun _ _ h => h
theorem HLe.trans {H H' H'' : Heap} (h : HLe H H') (h' : HLe H' H'') : HLe H H'' := fun i v x => h' i v (h i v x)
theorem okV.lt {H : Heap} {id v : Nat} (h : okV H id v) : id < H.length := by
  unfold okV at h
  rcases Nat.lt_or_ge id H.length with h1 | h1
  · exact h1
  · rw [List.getElem?_eq_none h1] at h; exact h.elim
theorem HLe.app (H : Heap) (x : Option Blk) : HLe H (H ++ [x]) := fun i v h => by
  have := h.lt
  unfold okV at *
  rw [List.getElem?_append_left this]; exact h
theorem okV_new (H : Heap) (b : Blk) : okV (H ++ [some b]) H.length b.ver := by
  unfold okV
  rw [List.getElem?_append_right (Nat.le_refl _)]; simp
theorem HLe.set {H : Heap} {id : Nat} {b b' : Blk} (hb : H[id]? = some (some b)) (hv : b.ver ≤ b'.ver) : HLe H (H.set id (some b')) := fun i v h => by
  unfold okV at *
  rw [List.getElem?_set]
  by_cases e : id = i
  · subst e
    rw [if_pos rfl, if_pos (List.getElem?_eq_some_iff.1 hb).1]
    rw [hb] at h
    exact Nat.le_trans h hv
  · rw [if_neg e]; exact h
theorem HLe.kill (H : Heap) (id : Nat) : HLe H (H.set id none) := fun i v h => by
  have := h.lt
  unfold okV at *
  rw [List.getElem?_set]
  by_cases e : id = i
  · subst e; rw [if_pos rfl, if_pos this]; trivial
  · rw [if_neg e]; exact h
/-- All blocks that a datum names are there, and have come to the version named. -/
inductive OkD (H : Heap) : D → Prop
  | any : OkD H .any
  | v (x) : OkD H (.v x)
  | agg (cs : List D) (h : ∀ c ∈ cs, OkD H c) : OkD H (.agg cs)
  | tup (cs : List D) (h : ∀ c ∈ cs, OkD H c) : OkD H (.tup cs)
  | rd (n cs) : OkD H (.rd n cs)
  | adr (cs) : OkD H (.adr cs)
  | own (id ver off n sz) (h : okV H id ver) : OkD H (.own id ver off n sz)
  | ptr (id ver off) (h : okV H id ver) : OkD H (.ptr id ver off)
theorem OkD.mono {H H' : Heap} {d : D} (h : OkD H d) (hb : HLe H H') : OkD H' d := by
  induction h with
  | any => exact .any
  | v x => exact .v x
  | agg cs _ ih => exact .agg cs ih
  | tup cs _ ih => exact .tup cs ih
  | rd n cs => exact .rd n cs
  | adr cs => exact .adr cs
  | own id ver off n sz h => exact .own _ _ _ _ _ (hb _ _ h)
  | ptr id ver off h => exact .ptr _ _ _ (hb _ _ h)
/-- Two tables of blocks tell the same of what there is. -/
def Agr (H : Heap) (β β' : Nat → Nat → BT) : Prop := ∀ i v, okV H i v → β' i v = β i v
theorem Agr.refl (H : Heap) (β : Nat → Nat → BT) : Agr H β β := fun _ _ _ => rfl

theorem DR.pure {K : Mem} {β β' : Nat → Nat → BT} {m : Bool} {x : Value} {d : D} (h : DR K β m x d) (hm : m = false) : DR K β' m x d := by
  induction h with
  | any m x => exact .any _ _
  | v m x => exact .v _ _
  | agg m us cs hl _ ih => exact .agg _ us cs hl fun j u d hu hd => ih j u d hu hd hm
  | tup m us cs hl _ ih => exact .tup _ us cs hl fun j u d hu hd => ih j u d hu hd hm
  | rd m A n c us cs hn hl hc _ ih => exact .rd _ A n c us cs hn hl hc fun j u d hu hd => ih j u d hu hd rfl
  | adr m ad us cs hl hc _ ih => exact .adr _ ad us cs hl hc fun j u d hu hd => ih j u d hu hd rfl
  | own => cases hm
  | own0 => cases hm
  | ptr => cases hm
theorem DR.up {K : Mem} {β : Nat → Nat → BT} {m : Bool} {x : Value} {d : D} (h : DR K β m x d) (hm : m = false) : DR K β true x d := by
  induction h with
  | any m x => exact .any _ _
  | v m x => exact .v _ _
  | agg m us cs hl _ ih => exact .agg _ us cs hl fun j u d hu hd => ih j u d hu hd hm
  | tup m us cs hl _ ih => exact .tup _ us cs hl fun j u d hu hd => ih j u d hu hd hm
  | rd m A n c us cs hn hl hc hd ih => exact .rd _ A n c us cs hn hl hc hd
  | adr m ad us cs hl hc hd ih => exact .adr _ ad us cs hl hc hd
  | own => cases hm
  | own0 => cases hm
  | ptr => cases hm
theorem DR.mono {K K' : Mem} {β β' : Nat → Nat → BT} {m : Bool} {x : Value} {d : D} (h : DR K β m x d) (hK : Mem.le K K') {H : Heap} (ho : m = true → OkD H d) (hβ : Agr H β β') : DR K' β' m x d := by
  induction h with
  | any m x => exact .any _ _
  | v m x => exact .v _ _
  | agg m us cs hl _ ih =>
    refine .agg _ us cs hl fun j u d hu hd => ih j u d hu hd fun hm => ?_
    cases ho hm with
    | agg _ h => exact h d (List.mem_of_getElem? hd)
  | tup m us cs hl _ ih =>
    refine .tup _ us cs hl fun j u d hu hd => ih j u d hu hd fun hm => ?_
    cases ho hm with
    | tup _ h => exact h d (List.mem_of_getElem? hd)
  | rd m A n c us cs hn hl hc _ ih =>
    refine .rd _ A n c us cs hn hl (fun j u hu => ?_) fun j u d hu hd => ih j u d hu hd (by intro h; cases h)
    obtain ⟨ad, e, hk⟩ := hc j u hu
    exact ⟨ad, e, hK.cell hk⟩
  | adr m ad us cs hl hc _ ih =>
    exact .adr _ ad us cs hl (fun j u hu => hK.cell (hc j u hu)) fun j u d hu hd => ih j u d hu hd (by intro h; cases h)
  | own id ver off n sz c hn hm hc hr =>
    cases ho rfl with
    | own _ _ _ _ _ h => rw [← hβ id ver h] at hc hr ⊢; exact .own id ver off n sz c hn hm hc hr
  | own0 id ver sz hr =>
    cases ho rfl with
    | own _ _ _ _ _ h => rw [← hβ id ver h] at hr; exact .own0 id ver sz hr
  | ptr id ver off hr =>
    cases ho rfl with
    | ptr _ _ _ h => rw [← hβ id ver h] at hr ⊢; exact .ptr id ver off hr

theorem DR.okp {K : Mem} {β : Nat → Nat → BT} {m : Bool} {x : Value} {d : D} (h : DR K β m x d) (hm : m = false) {H : Heap} : OkD H d := by
  induction h with
  | any m x => exact .any
  | v m x => exact .v _
  | agg m us cs hl hd ih =>
    refine .agg _ fun c hc => ?_
    obtain ⟨j, hj⟩ := List.getElem?_of_mem hc
    have hlt : j < us.length := by rw [hl]; exact (List.getElem?_eq_some_iff.1 hj).1
    exact ih j _ c (List.getElem?_eq_getElem hlt) hj hm
  | tup m us cs hl hd ih =>
    refine .tup _ fun c hc => ?_
    obtain ⟨j, hj⟩ := List.getElem?_of_mem hc
    have hlt : j < us.length := by rw [hl]; exact (List.getElem?_eq_some_iff.1 hj).1
    exact ih j _ c (List.getElem?_eq_getElem hlt) hj hm
  | rd m A n c us cs => exact .rd _ _
  | adr m ad us cs => exact .adr _
  | own => cases hm
  | own0 => cases hm
  | ptr => cases hm
theorem DR.v_inv {K : Mem} {β : Nat → Nat → BT} {m : Bool} {x y : Value} (h : DR K β m x (.v y)) : x = y := by cases h; rfl
theorem DR.rd_inv {K : Mem} {β : Nat → Nat → BT} {m : Bool} {x : Value} {n : Nat} {cs : List D} (h : DR K β m x (.rd n cs)) : ∃ (A : Option Addr) (c : Nat) (us : List Value), x = .slice A n c ∧ n ≤ c ∧ us.length = cs.length ∧
    (∀ (j : Nat) u, us[j]? = some u → ∃ ad, A = some ad ∧ K.cell (ad.add j) = some u) ∧ (∀ (j : Nat) u d, us[j]? = some u → cs[j]? = some d → DR K β false u d) := by
  cases h with
  | rd _ A n c us cs hn hl hc hd => exact ⟨A, c, us, rfl, hn, hl, hc, hd⟩
theorem DR.adr_inv {K : Mem} {β : Nat → Nat → BT} {m : Bool} {x : Value} {cs : List D} (h : DR K β m x (.adr cs)) : ∃ (ad : Addr) (us : List Value), x = .pointer (some ad) ∧ us.length = cs.length ∧
    (∀ (j : Nat) u, us[j]? = some u → K.cell (ad.add j) = some u) ∧ (∀ (j : Nat) u d, us[j]? = some u → cs[j]? = some d → DR K β false u d) := by
  cases h with
  | adr _ ad us cs hl hc hd => exact ⟨ad, us, rfl, hl, hc, hd⟩
theorem DR.agg_inv {K : Mem} {β : Nat → Nat → BT} {m : Bool} {x : Value} {cs : List D} (h : DR K β m x (.agg cs)) : ∃ us : List Value, x = .agg us.toArray ∧ us.length = cs.length ∧ (∀ (j : Nat) u d, us[j]? = some u → cs[j]? = some d → DR K β m u d) := by
  cases h with
  | agg _ us cs hl hd => exact ⟨us, rfl, hl, hd⟩
theorem DR.tup_inv {K : Mem} {β : Nat → Nat → BT} {m : Bool} {x : Value} {cs : List D} (h : DR K β m x (.tup cs)) : ∃ us : List Value, x = .tuple us.toArray ∧ us.length = cs.length ∧ (∀ (j : Nat) u d, us[j]? = some u → cs[j]? = some d → DR K β m u d) := by
  cases h with
  | tup _ us cs hl hd => exact ⟨us, rfl, hl, hd⟩
theorem DR.own_inv {K : Mem} {β : Nat → Nat → BT} {m : Bool} {x : Value} {id ver off n sz : Nat} (h : DR K β m x (.own id ver off n sz)) : (∃ c, x = .slice (some ⟨(β id ver).blk, off, none⟩) n c ∧ n ≤ c ∧ c ≤ maxLen ∧ off + c * sz = (β id ver).tot ∧ (β id ver).real = true) ∨ (x = .slice none 0 0 ∧ off = 0 ∧ n = 0 ∧ (β id ver).real = false) := by
  cases h with
  | own _ _ _ _ _ c hn hm hc hr => exact .inl ⟨c, rfl, hn, hm, hc, hr⟩
  | own0 _ _ _ hr => exact .inr ⟨rfl, rfl, rfl, hr⟩
theorem DR.own_len {K : Mem} {β : Nat → Nat → BT} {m : Bool} {x : Value} {id ver off n sz : Nat} (h : DR K β m x (.own id ver off n sz)) : ∃ A c, x = .slice A n c ∧ n ≤ c := by
  rcases h.own_inv with ⟨c, e, hc, _⟩ | ⟨e, _, h0, _⟩
  · exact ⟨_, c, e, hc⟩
  · subst h0; exact ⟨_, 0, e, Nat.le_refl _⟩
theorem DR.ptr_inv {K : Mem} {β : Nat → Nat → BT} {m : Bool} {x : Value} {id ver off : Nat} (h : DR K β m x (.ptr id ver off)) : x = .pointer (some ⟨(β id ver).blk, off, none⟩) ∧ (β id ver).real = true := by
  cases h with
  | ptr _ _ _ hr => exact ⟨rfl, hr⟩

/-- Block t of the world holds these cells; more may stand behind them, where the row may grow. -/
def BlkR (K : Mem) (β : Nat → Nat → BT) (t : BT) (b : Blk) (o : Option Obj) : Prop :=
  if t.real = true then ∃ us rest : List Value, o = some (.cells (us ++ rest).toArray b.e (0, 0)) ∧ us.length = b.cs.length ∧ us.length + rest.length = t.tot ∧ (b.grow = false → rest = []) ∧ ∀ (j : Nat) u d, us[j]? = some u → b.cs[j]? = some d → DR K β true u d
  else b.cs = []

structure Ctx where
  B : Nat
  W : World
structure WS (C : Ctx) (K : Mem) (β : Nat → Nat → BT) (H : Heap) (w : World) : Prop where
  holds : ∀ b c, K b = some c → ∃ e f, w.heap[b]? = some (.cells c e f)
  blk : ∀ (id : Nat) b, H[id]? = some (some b) → BlkR K β (β id b.ver) b (w.heap[(β id b.ver).blk]?)
  ok : ∀ (id : Nat) b, H[id]? = some (some b) → ∀ c ∈ b.cs, OkD H c
  inj : ∀ (i j : Nat) b b', H[i]? = some (some b) → H[j]? = some (some b') → (β i b.ver).real = true → (β j b'.ver).real = true → (β i b.ver).blk = (β j b'.ver).blk → i = j
  apart : ∀ (id : Nat) b, H[id]? = some (some b) → (β id b.ver).real = true → K (β id b.ver).blk = none
  base : ∀ (id : Nat) b, H[id]? = some (some b) → (β id b.ver).real = true → C.B ≤ (β id b.ver).blk
  size : C.B ≤ w.heap.size
  below : Below C.B C.W w

def addB (β : Nat → Nat → BT) (n v : Nat) (b : BT) : Nat → Nat → BT := fun i u => if i = n ∧ u = v then b else β i u
theorem addB_at {β : Nat → Nat → BT} {n v : Nat} {b : BT} : addB β n v b n v = b := by unfold addB; rw [if_pos ⟨rfl, rfl⟩]
theorem addB_ne {β : Nat → Nat → BT} {n v i u : Nat} {b : BT} (h : i ≠ n ∨ u ≠ v) : addB β n v b i u = β i u := by unfold addB; rw [if_neg (by omega)]
theorem addB_agr {β : Nat → Nat → BT} {H : Heap} {v : Nat} {b : BT} : Agr H β (addB β H.length v b) := fun i u h => addB_ne (.inl (by have := h.lt; omega))
theorem hp_new (w : World) (o : Obj) : (w.alloc o).heap[w.heap.size]? = some o := by
  show (w.heap.push o)[w.heap.size]? = _
  simp
theorem hp_old (w : World) (o : Obj) {r : Nat} (h : r < w.heap.size) : (w.alloc o).heap[r]? = w.heap[r]? := by
  show (w.heap.push o)[r]? = _
  rw [Array.getElem?_push, if_neg (by omega)]
theorem split_new {H : Heap} {b : Blk} {i : Nat} {x : Blk} (hx : (H ++ [some b])[i]? = some (some x)) : (H[i]? = some (some x) ∧ i < H.length) ∨ (i = H.length ∧ x = b) := by
  by_cases hi : i < H.length
  · rw [List.getElem?_append_left hi] at hx; exact .inl ⟨hx, hi⟩
  · rw [List.getElem?_append_right (by omega)] at hx
    by_cases he : i - H.length = 0
    · rw [he] at hx; simp at hx; exact .inr ⟨by omega, hx.symm⟩
    · rw [List.getElem?_eq_none (by simp; omega)] at hx; cases hx
theorem WS.real {C : Ctx} {K : Mem} {β : Nat → Nat → BT} {H : Heap} {w : World} (h : WS C K β H w) {id : Nat} {b : Blk} (hb : H[id]? = some (some b)) (hr : (β id b.ver).real = true) : ∃ us rest : List Value, w.heap[(β id b.ver).blk]? = some (.cells (us ++ rest).toArray b.e (0, 0)) ∧ us.length = b.cs.length ∧ us.length + rest.length = (β id b.ver).tot ∧ (b.grow = false → rest = []) ∧ ∀ (j : Nat) u d, us[j]? = some u → b.cs[j]? = some d → DR K β true u d := by
  have := h.blk id b hb
  unfold BlkR at this
  rwa [if_pos hr] at this
theorem WS.nil {C : Ctx} {K : Mem} {β : Nat → Nat → BT} {H : Heap} {w : World} (h : WS C K β H w) {id : Nat} {b : Blk} (hb : H[id]? = some (some b)) (hr : (β id b.ver).real = false) : b.cs = [] := by
  have := h.blk id b hb
  unfold BlkR at this
  rwa [if_neg (by rw [hr]; simp)] at this
theorem WS.full {C : Ctx} {K : Mem} {β : Nat → Nat → BT} {H : Heap} {w : World} (h : WS C K β H w) {id : Nat} {b : Blk} (hb : H[id]? = some (some b)) (hl : 0 < b.cs.length) : (β id b.ver).real = true := by
  cases hr : (β id b.ver).real with
  | true => rfl
  | false => rw [h.nil hb hr] at hl; simp at hl
theorem WS.lt {C : Ctx} {K : Mem} {β : Nat → Nat → BT} {H : Heap} {w : World} (h : WS C K β H w) {id : Nat} {b : Blk} (hb : H[id]? = some (some b)) (hr : (β id b.ver).real = true) : (β id b.ver).blk < w.heap.size := by
  obtain ⟨us, rest, e, _⟩ := h.real hb hr
  exact (Array.getElem?_eq_some_iff.1 e).1
theorem WS.klt {C : Ctx} {K : Mem} {β : Nat → Nat → BT} {H : Heap} {w : World} (h : WS C K β H w) {b : Nat} {c : Array Value} (hb : K b = some c) : b < w.heap.size := by
  obtain ⟨e, f, e'⟩ := h.holds b c hb
  exact (Array.getElem?_eq_some_iff.1 e').1
theorem WS.cell {C : Ctx} {K : Mem} {β : Nat → Nat → BT} {H : Heap} {w : World} (h : WS C K β H w) {a : Addr} {u : Value} (hu : K.cell a = some u) : w.cell? a = some u := by
  unfold Mem.cell at hu
  cases hk : K a.block with
  | none => simp [hk] at hu
  | some c =>
    obtain ⟨e, f, hw⟩ := h.holds _ _ hk
    simp only [hk] at hu
    unfold World.cell?
    rw [hw]; exact hu

/-- A new block that nobody changes any more. -/
def Mem.add (K : Mem) (b : Nat) (c : Array Value) : Mem := fun i => if i = b then some c else K i
theorem WS.fresh {C : Ctx} {K : Mem} {β : Nat → Nat → BT} {H : Heap} {w : World} (h : WS C K β H w) : K w.heap.size = none := by
  cases hk : K w.heap.size with
  | none => rfl
  | some c => exact absurd (h.klt hk) (Nat.lt_irrefl _)
theorem Mem.le_add {K : Mem} {b : Nat} {c : Array Value} (h : K b = none) : Mem.le K (K.add b c) := by
  intro i x hx
  unfold Mem.add
  by_cases e : i = b
  · subst e; rw [h] at hx; cases hx
  · rw [if_neg e]; exact hx
theorem BlkR.mono {K K' : Mem} {β β' : Nat → Nat → BT} {t : BT} {b : Blk} {o : Option Obj} (h : BlkR K β t b o) (hK : Mem.le K K') {H : Heap} (ho : ∀ c ∈ b.cs, OkD H c) (hβ : Agr H β β') : BlkR K' β' t b o := by
  unfold BlkR at *
  by_cases hr : t.real = true
  · rw [if_pos hr] at h ⊢
    obtain ⟨us, rest, e, hl, ht, hg, hd⟩ := h
    exact ⟨us, rest, e, hl, ht, hg, fun j u d hu hd' => (hd j u d hu hd').mono hK (fun _ => ho d (List.mem_of_getElem? hd')) hβ⟩
  · rw [if_neg hr] at h ⊢; exact h
theorem BlkR.other {K : Mem} {β : Nat → Nat → BT} {t : BT} {b : Blk} {o o' : Option Obj} (h : BlkR K β t b o) (ho : t.real = true → o' = o) : BlkR K β t b o' := by
  unfold BlkR at *
  by_cases hr : t.real = true
  · rw [if_pos hr] at h ⊢; rw [ho hr]; exact h
  · rw [if_neg hr] at h ⊢; exact h
/-- More memory that stays, and a world that has what there was. -/
theorem WS.ext {C : Ctx} {K K' : Mem} {β : Nat → Nat → BT} {H : Heap} {w w' : World} (h : WS C K β H w) (hK : Mem.le K K')
    (hn : ∀ b c, K' b = some c → K b = some c ∨ w.heap.size ≤ b) (hh : ∀ b c, K' b = some c → ∃ e f, w'.heap[b]? = some (.cells c e f)) (hb : Below w.heap.size w w') : WS C K' β H w' where
  holds := hh
  blk id b hb' := ((h.blk id b hb').mono hK (h.ok id b hb') (Agr.refl _ _)).other fun hr => hb.block _ (h.lt hb' hr)
  ok := h.ok
  inj := h.inj
  apart id b hb' hr := by
    cases hk : K' (β id b.ver).blk with
    | none => rfl
    | some c =>
      rcases hn _ _ hk with h1 | h1
      · rw [h.apart id b hb' hr] at h1; cases h1
      · have := h.lt hb' hr; omega
  base := h.base
  size := Nat.le_trans h.size hb.size
  below := h.below.trans (hb.mono h.size)
theorem WS.drew {C : Ctx} {K : Mem} {β : Nat → Nat → BT} {H : Heap} {w : World} (h : WS C K β H w) : WS C K β H w.drew :=
  h.ext (Mem.le.refl K) (fun _ _ h => .inl h) h.holds (Below.refl _ w).drew
/-- A new block that stays as it is. -/
theorem WS.still {C : Ctx} {K : Mem} {β : Nat → Nat → BT} {H : Heap} {w : World} (h : WS C K β H w) (c : Array Value) (e : TypeId) (f : Nat × Nat) : WS C (K.add w.heap.size c) β H (w.alloc (.cells c e f)) := by
  refine h.ext (Mem.le_add h.fresh) (fun b x hb => ?_) (fun b x hb => ?_) ((Below.refl _ w).alloc (Nat.le_refl _) _)
  · unfold Mem.add at hb
    by_cases he : b = w.heap.size
    · exact .inr (by omega)
    · rw [if_neg he] at hb; exact .inl hb
  · unfold Mem.add at hb
    by_cases he : b = w.heap.size
    · subst he; simp at hb; subst hb; exact ⟨e, f, hp_new w _⟩
    · rw [if_neg he] at hb
      obtain ⟨e', f', hw⟩ := h.holds b x hb
      exact ⟨e', f', by rw [hp_old w _ (h.klt hb)]; exact hw⟩
/-- A new block of the call's own. -/
theorem WS.new {C : Ctx} {K : Mem} {β : Nat → Nat → BT} {H : Heap} {w : World} (h : WS C K β H w) (us rest : List Value) (b : Blk) (hl : us.length = b.cs.length) (hg : b.grow = false → rest = [])
    (hd : ∀ (j : Nat) u d, us[j]? = some u → b.cs[j]? = some d → DR K β true u d) (ho : ∀ c ∈ b.cs, OkD H c) :
    WS C K (addB β H.length b.ver ⟨w.heap.size, us.length + rest.length, true⟩) (H ++ [some b]) (w.alloc (.cells (us ++ rest).toArray b.e)) := by
  have hβ : ∀ i v, i < H.length → addB β H.length b.ver ⟨w.heap.size, us.length + rest.length, true⟩ i v = β i v := fun i v hi => addB_ne (.inl (by omega))
  constructor
  case holds =>
    intro i c hc
    obtain ⟨e, f, hw⟩ := h.holds i c hc
    exact ⟨e, f, by rw [hp_old w _ (h.klt hc)]; exact hw⟩
  case blk =>
    intro i x hx
    rcases split_new hx with ⟨hx, hi⟩ | ⟨rfl, rfl⟩
    · rw [hβ i _ hi]
      exact ((h.blk i x hx).mono (Mem.le.refl K) (h.ok i x hx) addB_agr).other fun hr => hp_old w _ (h.lt hx hr)
    · rw [addB_at, hp_new]
      unfold BlkR
      rw [if_pos rfl]
      exact ⟨us, rest, rfl, hl, rfl, hg, fun j u d hu hd' => (hd j u d hu hd').mono (Mem.le.refl K) (fun _ => ho d (List.mem_of_getElem? hd')) addB_agr⟩
  case ok =>
    intro i x hx c hc
    rcases split_new hx with ⟨hx, hi⟩ | ⟨rfl, rfl⟩
    · exact (h.ok i x hx c hc).mono (HLe.app _ _)
    · exact (ho c hc).mono (HLe.app _ _)
  case inj =>
    intro i j x y hx hy hri hrj he
    rcases split_new hx with ⟨hx1, hi⟩ | ⟨rfl, rfl⟩ <;> rcases split_new hy with ⟨hy1, hj⟩ | ⟨rfl, rfl⟩
    · rw [hβ i _ hi] at he hri; rw [hβ j _ hj] at he hrj; exact h.inj i j x y hx1 hy1 hri hrj he
    · rw [hβ i _ hi] at he hri; rw [addB_at] at he; have := h.lt hx1 hri; simp at he; omega
    · rw [hβ j _ hj] at he hrj; rw [addB_at] at he; have := h.lt hy1 hrj; simp at he; omega
    · rfl
  case apart =>
    intro i x hx hr
    rcases split_new hx with ⟨hx, hi⟩ | ⟨rfl, rfl⟩
    · rw [hβ i _ hi] at hr ⊢; exact h.apart i x hx hr
    · rw [addB_at]; exact h.fresh
  case base =>
    intro i x hx hr
    rcases split_new hx with ⟨hx, hi⟩ | ⟨rfl, rfl⟩
    · rw [hβ i _ hi] at hr ⊢; exact h.base i x hx hr
    · rw [addB_at]; exact h.size
  case size => simp; have := h.size; omega
  case below => exact h.below.alloc h.size _
/-- A row of the call's own that is nil as yet. -/
theorem WS.newNil {C : Ctx} {K : Mem} {β : Nat → Nat → BT} {H : Heap} {w : World} (h : WS C K β H w) (e : TypeId) : WS C K (addB β H.length 0 ⟨0, 0, false⟩) (H ++ [some ⟨[], e, true, 0⟩]) w := by
  have hβ : ∀ i v, i < H.length → addB β H.length 0 ⟨0, 0, false⟩ i v = β i v := fun i v hi => addB_ne (.inl (by omega))
  refine ⟨h.holds, fun i x hx => ?_, fun i x hx c hc => ?_, fun i j x y hx hy hri hrj he => ?_, fun i x hx hr => ?_, fun i x hx hr => ?_, h.size, h.below⟩
  · rcases split_new hx with ⟨hx, hi⟩ | ⟨rfl, rfl⟩
    · rw [hβ i _ hi]; exact (h.blk i x hx).mono (Mem.le.refl K) (h.ok i x hx) addB_agr
    · rw [addB_at]; unfold BlkR; rw [if_neg (by simp)]
  · rcases split_new hx with ⟨hx, hi⟩ | ⟨rfl, rfl⟩
    · exact (h.ok i x hx c hc).mono (HLe.app _ _)
    · simp at hc
  · rcases split_new hx with ⟨hx1, hi⟩ | ⟨rfl, rfl⟩ <;> rcases split_new hy with ⟨hy1, hj⟩ | ⟨rfl, rfl⟩
    · rw [hβ i _ hi] at he hri; rw [hβ j _ hj] at he hrj; exact h.inj i j x y hx1 hy1 hri hrj he
    · rw [addB_at] at hrj; simp at hrj
    · rw [addB_at] at hri; simp at hri
    · rfl
  · rcases split_new hx with ⟨hx, hi⟩ | ⟨rfl, rfl⟩
    · rw [hβ i _ hi] at hr ⊢; exact h.apart i x hx hr
    · rw [addB_at] at hr; simp at hr
  · rcases split_new hx with ⟨hx, hi⟩ | ⟨rfl, rfl⟩
    · rw [hβ i _ hi] at hr ⊢; exact h.base i x hx hr
    · rw [addB_at] at hr; simp at hr
end Go.DL
