/-
  A logic of data for the walks: a call that was looked at with few blocks, among more. Plain lemmas over any program; no condition.
-/
import Derived.Test.YtpacdeiaimfiaaaDlP
set_option linter.unusedSimpArgs false
set_option linter.unusedVariables false
namespace Go.DL
open Go.RowKit

/-- Block j of the few is block 'rho I n j' of the many: those that were there are at the places of I, the new ones stand behind all n. -/
def rho (I : List Nat) (n j : Nat) : Nat := match I[j]? with
  | some i => i
  | none => n + (j - I.length)
/-- The same datum, its blocks called by their other numbers. -/
inductive Ren (ρ : Nat → Nat) : D → D → Prop
  | pure (d : D) (h : Pure' d) : Ren ρ d d
  | own (id ver off n sz : Nat) {i : Nat} (h : ρ id = i) : Ren ρ (.own id ver off n sz) (.own i ver off n sz)
  | ptr (id ver off : Nat) {i : Nat} (h : ρ id = i) : Ren ρ (.ptr id ver off) (.ptr i ver off)
  | omp (id ver : Nat) {i : Nat} (h : ρ id = i) : Ren ρ (.omp id ver) (.omp i ver)
  | agg (cs ds : List D) (hl : cs.length = ds.length) (h : ∀ (j : Nat) c d, cs[j]? = some c → ds[j]? = some d → Ren ρ c d) : Ren ρ (.agg cs) (.agg ds)
  | tup (cs ds : List D) (hl : cs.length = ds.length) (h : ∀ (j : Nat) c d, cs[j]? = some c → ds[j]? = some d → Ren ρ c d) : Ren ρ (.tup cs) (.tup ds)
  | fn (f : Fn) (cs ds : List D) (hl : cs.length = ds.length) (h : ∀ (j : Nat) c d, cs[j]? = some c → ds[j]? = some d → Ren ρ c d) : Ren ρ (.fn f cs) (.fn f ds)
  | iface (t : TypeId) (c d : D) (h : Ren ρ c d) : Ren ρ (.iface t c) (.iface t d)
/-- Lists, one by one. -/
def All2 {α β : Type} (R : α → β → Prop) : List α → List β → Prop
  | [], [] => True
  | a :: l, b :: m => R a b ∧ All2 R l m
  | _, _ => False
theorem All2.at {α β : Type} {R : α → β → Prop} : ∀ {l : List α} {m : List β}, All2 R l m → l.length = m.length ∧ ∀ (j : Nat) a b, l[j]? = some a → m[j]? = some b → R a b
  | [], [], _ => ⟨rfl, by simp⟩
  | a :: l, b :: m, h => by
    obtain ⟨h1, h2⟩ := h.2.at
    refine ⟨by simp [h1], fun j x y hx hy => ?_⟩
    rcases j with _ | j
    · simp at hx hy; subst hx hy; exact h.1
    · exact h2 j x y (by simpa using hx) (by simpa using hy)
  | [], _ :: _, h => h.elim
  | _ :: _, [], h => h.elim
theorem Ren.agg' {ρ : Nat → Nat} {cs ds : List D} (h : All2 (Ren ρ) cs ds) : Ren ρ (.agg cs) (.agg ds) := .agg cs ds h.at.1 h.at.2
theorem Ren.tup' {ρ : Nat → Nat} {cs ds : List D} (h : All2 (Ren ρ) cs ds) : Ren ρ (.tup cs) (.tup ds) := .tup cs ds h.at.1 h.at.2
theorem Ren.fn' {ρ : Nat → Nat} {f : Fn} {cs ds : List D} (h : All2 (Ren ρ) cs ds) : Ren ρ (.fn f cs) (.fn f ds) := .fn f cs ds h.at.1 h.at.2
structure RenK (ρ : Nat → Nat) (b b' : Blk) : Prop where
  e : b.e = b'.e
  grow : b.grow = b'.grow
  ver : b.ver = b'.ver
  len : b.cs.length = b'.cs.length
  cs : ∀ (j : Nat) c d, b.cs[j]? = some c → b'.cs[j]? = some d → Ren ρ c d
inductive RenB (ρ : Nat → Nat) : Option Blk → Option Blk → Prop
  | nil : RenB ρ none none
  | blk {b b' : Blk} (h : RenK ρ b b') : RenB ρ (some b) (some b')
theorem RenB.pure {ρ : Nat → Nat} {b : Blk} (h : ∀ c ∈ b.cs, Pure' c) : RenB ρ (some b) (some b) := .blk ⟨rfl, rfl, rfl, rfl, fun j c d hc hd => by
  rw [hc] at hd; cases hd; exact .pure _ (h c (List.mem_of_getElem? hc))⟩
def Picks (H : Heap) : List Nat → List (Option Blk) → Prop
  | [], [] => True
  | i :: I, b :: Bs => H[i]? = some b ∧ Picks H I Bs
  | _, _ => False
theorem Picks.at {H : Heap} : ∀ {I : List Nat} {Bs : List (Option Blk)}, Picks H I Bs → I.length = Bs.length ∧ ∀ (j : Nat) i, I[j]? = some i → H[i]? = Bs[j]?
  | [], [], _ => ⟨rfl, by simp⟩
  | i :: I, b :: Bs, h => by
    obtain ⟨h1, h2⟩ := h.2.at
    refine ⟨by simp [h1], fun j x hx => ?_⟩
    rcases j with _ | j
    · simp at hx; subst hx; exact h.1
    · exact h2 j x (by simpa using hx)
  | [], _ :: _, h => h.elim
  | _ :: _, [], h => h.elim
def putI (H : Heap) : List Nat → List (Option Blk) → Heap
  | [], _ => H
  | _ :: _, [] => H
  | i :: I, b :: Bs => putI (H.set i b) I Bs
theorem putI_len : ∀ (I : List Nat) (Bs : List (Option Blk)) (H : Heap), (putI H I Bs).length = H.length
  | [], _, _ => by rw [putI]
  | _ :: _, [], _ => by rw [putI]
  | i :: I, b :: Bs, H => by rw [putI, putI_len I Bs]; simp
theorem putI_out : ∀ (I : List Nat) (Bs : List (Option Blk)) (H : Heap) (k : Nat), k ∉ I → (putI H I Bs)[k]? = H[k]?
  | [], _, _, _, _ => by rw [putI]
  | _ :: _, [], _, _, _ => by rw [putI]
  | i :: I, b :: Bs, H, k, hk => by
    rw [putI, putI_out I Bs _ k (fun h => hk (List.mem_cons_of_mem _ h)), List.getElem?_set, if_neg (fun h => hk (by rw [h]; exact List.mem_cons_self))]
theorem putI_in : ∀ (I : List Nat) (Bs : List (Option Blk)) (H : Heap) (j i : Nat), I.Nodup → I.length = Bs.length → (∀ i ∈ I, i < H.length) → I[j]? = some i → (putI H I Bs)[i]? = Bs[j]?
  | [], _, _, j, i, _, _, _, h => by simp at h
  | _ :: _, [], _, _, _, _, hl, _, _ => by simp at hl
  | i' :: I, b :: Bs, H, j, i, hn, hl, hlt, h => by
    rw [putI]
    rcases j with _ | j
    · simp at h; subst h
      rw [putI_out I Bs _ _ (List.nodup_cons.1 hn).1, List.getElem?_set_self (hlt _ List.mem_cons_self)]; rfl
    · rw [putI_in I Bs _ j i (List.nodup_cons.1 hn).2 (by simpa using hl) (fun k hk => by rw [List.length_set]; exact hlt k (List.mem_cons_of_mem _ hk)) (by simpa using h)]; rfl

theorem Pure'.ok {d : D} (h : Pure' d) (H : Heap) : OkD H d := by
  induction h with
  | any => exact .any
  | v x => exact .v x
  | rd n cs => exact .rd n cs
  | adr cs => exact .adr cs
  | agg cs _ ih => exact .agg cs ih
  | tup cs _ ih => exact .tup cs ih
  | fn f cs _ ih => exact .fn f cs ih
  | iface t d _ ih => exact .iface t d ih
  | mp ks cs => exact .mp ks cs
theorem DR.pureβ {K : Mem} {β β' : Nat → Nat → BT} {m : Bool} {x : Value} {d : D} (h : DR K β m x d) (hp : Pure' d) : DR K β' m x d := by
  have := (h.down hp).pure (β' := β') rfl
  cases m with
  | false => exact this
  | true => exact this.up rfl
theorem DR.unren {K : Mem} {β β' : Nat → Nat → BT} {ρ : Nat → Nat} (hβ : ∀ j v, β' j v = β (ρ j) v) {c d : D} (hr : Ren ρ c d) : ∀ {m : Bool} {x : Value}, DR K β m x d → DR K β' m x c := by
  induction hr with
  | pure d h => intro m x hx; exact hx.pureβ h
  | own id ver off n sz h =>
    subst h
    intro m x hx
    cases hx with
    | own _ _ _ _ _ c hn hm hc hr => rw [← hβ] at hc hr ⊢; exact .own id ver off n sz c hn hm hc hr
    | own0 _ _ _ hr => rw [← hβ] at hr; exact .own0 id ver sz hr
  | ptr id ver off h =>
    subst h
    intro m x hx
    cases hx with
    | ptr _ _ _ hr => rw [← hβ] at hr ⊢; exact .ptr id ver off hr
  | omp id ver h =>
    subst h
    intro m x hx
    cases hx with
    | omp _ _ hr => rw [← hβ] at hr ⊢; exact .omp id ver hr
  | agg cs ds hl _ ih =>
    intro m x hx
    cases hx with
    | agg _ us _ hl' hd =>
      exact .agg _ us cs (by omega) fun j u c hu hc => by
        have hj : j < ds.length := by rw [← hl]; exact (List.getElem?_eq_some_iff.1 hc).1
        exact ih j c ds[j] hc (List.getElem?_eq_getElem hj) (hd j u _ hu (List.getElem?_eq_getElem hj))
  | tup cs ds hl _ ih =>
    intro m x hx
    cases hx with
    | tup _ us _ hl' hd =>
      exact .tup _ us cs (by omega) fun j u c hu hc => by
        have hj : j < ds.length := by rw [← hl]; exact (List.getElem?_eq_some_iff.1 hc).1
        exact ih j c ds[j] hc (List.getElem?_eq_getElem hj) (hd j u _ hu (List.getElem?_eq_getElem hj))
  | fn f cs ds hl _ ih =>
    intro m x hx
    cases hx with
    | fn _ _ us _ hl' hd =>
      exact .fn _ f us cs (by omega) fun j u c hu hc => by
        have hj : j < ds.length := by rw [← hl]; exact (List.getElem?_eq_some_iff.1 hc).1
        exact ih j c ds[j] hc (List.getElem?_eq_getElem hj) (hd j u _ hu (List.getElem?_eq_getElem hj))
  | iface t c d _ ih =>
    intro m x hx
    obtain ⟨u, rfl, hu⟩ := hx.iface_inv
    exact .iface _ t u c (ih hu)
theorem DR.ren {K : Mem} {β β' : Nat → Nat → BT} {ρ : Nat → Nat} {H : Heap} (hβ : ∀ j v, j < H.length → β' (ρ j) v = β j v) {c d : D} (hr : Ren ρ c d) : OkD H c → ∀ {m : Bool} {x : Value}, DR K β m x c → DR K β' m x d := by
  induction hr with
  | pure d h => intro _ m x hx; exact hx.pureβ h
  | own id ver off n sz h =>
    subst h
    intro ho m x hx
    have hid : id < H.length := by cases ho with | own _ _ _ _ _ h => exact h.lt
    have e := hβ id ver hid
    cases hx with
    | own _ _ _ _ _ c hn hm hc hr => rw [← e] at hc hr ⊢; exact .own _ ver off n sz c hn hm hc hr
    | own0 _ _ _ hr => rw [← e] at hr; exact .own0 _ ver sz hr
  | ptr id ver off h =>
    subst h
    intro ho m x hx
    have hid : id < H.length := by cases ho with | ptr _ _ _ h => exact h.lt
    have e := hβ id ver hid
    cases hx with
    | ptr _ _ _ hr => rw [← e] at hr ⊢; exact .ptr _ ver off hr
  | omp id ver h =>
    subst h
    intro ho m x hx
    have hid : id < H.length := by cases ho with | omp _ _ h => exact h.lt
    have e := hβ id ver hid
    cases hx with
    | omp _ _ hr => rw [← e] at hr ⊢; exact .omp _ ver hr
  | agg cs ds hl _ ih =>
    intro ho m x hx
    cases ho with
    | agg _ ho =>
      cases hx with
      | agg _ us _ hl' hd =>
        exact .agg _ us ds (by omega) fun j u d hu hd' => by
          have hj : j < cs.length := by rw [hl]; exact (List.getElem?_eq_some_iff.1 hd').1
          exact ih j cs[j] d (List.getElem?_eq_getElem hj) hd' (ho _ (List.getElem_mem hj)) (hd j u _ hu (List.getElem?_eq_getElem hj))
  | tup cs ds hl _ ih =>
    intro ho m x hx
    cases ho with
    | tup _ ho =>
      cases hx with
      | tup _ us _ hl' hd =>
        exact .tup _ us ds (by omega) fun j u d hu hd' => by
          have hj : j < cs.length := by rw [hl]; exact (List.getElem?_eq_some_iff.1 hd').1
          exact ih j cs[j] d (List.getElem?_eq_getElem hj) hd' (ho _ (List.getElem_mem hj)) (hd j u _ hu (List.getElem?_eq_getElem hj))
  | fn f cs ds hl _ ih =>
    intro ho m x hx
    cases ho with
    | fn _ _ ho =>
      cases hx with
      | fn _ _ us _ hl' hd =>
        exact .fn _ f us ds (by omega) fun j u d hu hd' => by
          have hj : j < cs.length := by rw [hl]; exact (List.getElem?_eq_some_iff.1 hd').1
          exact ih j cs[j] d (List.getElem?_eq_getElem hj) hd' (ho _ (List.getElem_mem hj)) (hd j u _ hu (List.getElem?_eq_getElem hj))
  | iface t c d _ ih =>
    intro ho m x hx
    cases ho with
    | iface _ _ ho =>
      obtain ⟨u, rfl, hu⟩ := hx.iface_inv
      exact .iface _ t u d (ih ho hu)
theorem OkD.ren {ρ : Nat → Nat} {H H' : Heap} (hv : ∀ j v, okV H j v → okV H' (ρ j) v) {c d : D} (hr : Ren ρ c d) : OkD H c → OkD H' d := by
  induction hr with
  | pure d h => intro _; exact h.ok _
  | own id ver off n sz h => subst h; intro ho; cases ho with | own _ _ _ _ _ h => exact .own _ _ _ _ _ (hv _ _ h)
  | ptr id ver off h => subst h; intro ho; cases ho with | ptr _ _ _ h => exact .ptr _ _ _ (hv _ _ h)
  | omp id ver h => subst h; intro ho; cases ho with | omp _ _ h => exact .omp _ _ (hv _ _ h)
  | agg cs ds hl _ ih =>
    intro ho
    cases ho with
    | agg _ ho =>
      exact .agg _ fun d hd => by
        obtain ⟨j, hj⟩ := List.getElem?_of_mem hd
        have hlt : j < cs.length := by rw [hl]; exact (List.getElem?_eq_some_iff.1 hj).1
        exact ih j cs[j] d (List.getElem?_eq_getElem hlt) hj (ho _ (List.getElem_mem hlt))
  | tup cs ds hl _ ih =>
    intro ho
    cases ho with
    | tup _ ho =>
      exact .tup _ fun d hd => by
        obtain ⟨j, hj⟩ := List.getElem?_of_mem hd
        have hlt : j < cs.length := by rw [hl]; exact (List.getElem?_eq_some_iff.1 hj).1
        exact ih j cs[j] d (List.getElem?_eq_getElem hlt) hj (ho _ (List.getElem_mem hlt))
  | fn f cs ds hl _ ih =>
    intro ho
    cases ho with
    | fn _ _ ho =>
      exact .fn _ _ fun d hd => by
        obtain ⟨j, hj⟩ := List.getElem?_of_mem hd
        have hlt : j < cs.length := by rw [hl]; exact (List.getElem?_eq_some_iff.1 hj).1
        exact ih j cs[j] d (List.getElem?_eq_getElem hlt) hj (ho _ (List.getElem_mem hlt))
  | iface t c d _ ih =>
    intro ho
    cases ho with
    | iface _ _ ho => exact .iface _ _ (ih ho)
theorem OkD.unren {ρ : Nat → Nat} {H H' : Heap} (hv : ∀ j v, okV H' (ρ j) v → okV H j v) {c d : D} (hr : Ren ρ c d) : OkD H' d → OkD H c := by
  induction hr with
  | pure d h => intro _; exact h.ok _
  | own id ver off n sz h => subst h; intro ho; cases ho with | own _ _ _ _ _ h => exact .own _ _ _ _ _ (hv _ _ h)
  | ptr id ver off h => subst h; intro ho; cases ho with | ptr _ _ _ h => exact .ptr _ _ _ (hv _ _ h)
  | omp id ver h => subst h; intro ho; cases ho with | omp _ _ h => exact .omp _ _ (hv _ _ h)
  | agg cs ds hl _ ih =>
    intro ho
    cases ho with
    | agg _ ho =>
      exact .agg _ fun c hc => by
        obtain ⟨j, hj⟩ := List.getElem?_of_mem hc
        have hlt : j < ds.length := by rw [← hl]; exact (List.getElem?_eq_some_iff.1 hj).1
        exact ih j c ds[j] hj (List.getElem?_eq_getElem hlt) (ho _ (List.getElem_mem hlt))
  | tup cs ds hl _ ih =>
    intro ho
    cases ho with
    | tup _ ho =>
      exact .tup _ fun c hc => by
        obtain ⟨j, hj⟩ := List.getElem?_of_mem hc
        have hlt : j < ds.length := by rw [← hl]; exact (List.getElem?_eq_some_iff.1 hj).1
        exact ih j c ds[j] hj (List.getElem?_eq_getElem hlt) (ho _ (List.getElem_mem hlt))
  | fn f cs ds hl _ ih =>
    intro ho
    cases ho with
    | fn _ _ ho =>
      exact .fn _ _ fun c hc => by
        obtain ⟨j, hj⟩ := List.getElem?_of_mem hc
        have hlt : j < ds.length := by rw [← hl]; exact (List.getElem?_eq_some_iff.1 hj).1
        exact ih j c ds[j] hj (List.getElem?_eq_getElem hlt) (ho _ (List.getElem_mem hlt))
  | iface t c d _ ih =>
    intro ho
    cases ho with
    | iface _ _ ho => exact .iface _ _ (ih ho)
theorem Ren.v_inv {ρ : Nat → Nat} {c : D} {x : Value} (h : Ren ρ c (.v x)) : c = .v x := by cases h; rfl
theorem Ren.v_inv' {ρ : Nat → Nat} {d : D} {x : Value} (h : Ren ρ (.v x) d) : d = .v x := by cases h; rfl
theorem RenK.unblk {K : Mem} {β β' : Nat → Nat → BT} {ρ : Nat → Nat} {b b' : Blk} {t : BT} {o : Option Obj} (hβ : ∀ j v, β' j v = β (ρ j) v) (h : RenK ρ b b') (hb : BlkR K β t b' o) : BlkR K β' t b o := by
  have hlen := h.len
  unfold BlkR at *
  cases hs : t.st with
  | none => rw [hs] at hb; simp only at hb ⊢; rw [hb] at hlen; exact List.eq_nil_of_length_eq_zero (by simpa using hlen)
  | cells =>
    rw [hs] at hb
    obtain ⟨us, rest, e, hl, ht, hg, hd⟩ := hb
    refine ⟨us, rest, by rw [h.e]; exact e, by omega, ht, by rw [h.grow]; exact hg, fun j u c hu hc => ?_⟩
    have hj : j < b'.cs.length := by rw [← hlen]; exact (List.getElem?_eq_some_iff.1 hc).1
    exact (hd j u _ hu (List.getElem?_eq_getElem hj)).unren hβ (h.cs j c _ hc (List.getElem?_eq_getElem hj))
  | map =>
    rw [hs] at hb
    obtain ⟨es, ck, e, hE⟩ := hb
    have hel := hE.len
    refine ⟨es, ck, e, by omega, fun j u c hu hc => ?_, hE.born, hE.clock⟩
    have hj : j < b'.cs.length := by rw [← hlen]; exact (List.getElem?_eq_some_iff.1 hc).1
    obtain ⟨dv, e1, hdv⟩ := hE.rd j u _ hu (List.getElem?_eq_getElem hj)
    have hr := h.cs j c _ hc (List.getElem?_eq_getElem hj)
    rw [e1] at hr
    cases hr with
    | pure _ hp =>
      cases hp with
      | tup _ hp => exact ⟨dv, rfl, hdv.pureβ (hp dv (by simp))⟩
    | tup cs _ hl2 hh =>
      match cs, hl2 with
      | [c0, c1], _ =>
        have := (hh 0 c0 (.v u.key) rfl rfl).v_inv
        subst this
        exact ⟨c1, rfl, hdv.unren hβ (hh 1 c1 dv rfl rfl)⟩
theorem RenK.blk {K : Mem} {β β' : Nat → Nat → BT} {ρ : Nat → Nat} {H : Heap} {b b' : Blk} {t : BT} {o : Option Obj} (hβ : ∀ j v, j < H.length → β' (ρ j) v = β j v) (ho : ∀ c ∈ b.cs, OkD H c) (h : RenK ρ b b') (hb : BlkR K β t b o) : BlkR K β' t b' o := by
  have hlen := h.len
  unfold BlkR at *
  cases hs : t.st with
  | none => rw [hs] at hb; simp only at hb ⊢; rw [hb] at hlen; exact List.eq_nil_of_length_eq_zero (by simpa using hlen.symm)
  | cells =>
    rw [hs] at hb
    obtain ⟨us, rest, e, hl, ht, hg, hd⟩ := hb
    refine ⟨us, rest, by rw [← h.e]; exact e, by omega, ht, by rw [← h.grow]; exact hg, fun j u d hu hd' => ?_⟩
    have hj : j < b.cs.length := by rw [hlen]; exact (List.getElem?_eq_some_iff.1 hd').1
    exact (hd j u _ hu (List.getElem?_eq_getElem hj)).ren hβ (h.cs j _ d (List.getElem?_eq_getElem hj) hd') (ho _ (List.getElem_mem hj))
  | map =>
    rw [hs] at hb
    obtain ⟨es, ck, e, hE⟩ := hb
    have hel := hE.len
    refine ⟨es, ck, e, by omega, fun j u d hu hd' => ?_, hE.born, hE.clock⟩
    have hj : j < b.cs.length := by rw [hlen]; exact (List.getElem?_eq_some_iff.1 hd').1
    obtain ⟨dv, e1, hdv⟩ := hE.rd j u _ hu (List.getElem?_eq_getElem hj)
    have hok := ho _ (List.getElem_mem hj)
    have hr := h.cs j _ d (List.getElem?_eq_getElem hj) hd'
    rw [e1] at hr hok
    cases hok with
    | tup _ hok =>
      cases hr with
      | pure _ hp =>
        cases hp with
        | tup _ hp => exact ⟨dv, rfl, hdv.pureβ (hp dv (by simp))⟩
      | tup _ ds hl2 hh =>
        match ds, hl2 with
        | [d0, d1], _ =>
          have := (hh 0 (.v u.key) d0 rfl rfl).v_inv'
          subst this
          exact ⟨d1, rfl, hdv.ren hβ (hh 1 dv d1 rfl rfl) (hok dv (by simp))⟩

inductive ORen (ρ : Nat → Nat) : DOut → DOut → Prop
  | ret {c d : D} (h : Ren ρ c d) : ORen ρ (.ret c) (.ret d)
  | pan {c d : D} (h : Ren ρ c d) : ORen ρ (.pan c) (.pan d)
theorem frameAt {T : Array Value → World → (Ending → World → Prop) → Prop} (hT : ∀ {as : Array Value} {w : World} {R R' : Ending → World → Prop}, T as w R → (∀ e w, R e w → R' e w) → T as w R') {ds0 ds : List D} {H0 H : Heap} {Q Q' : DOut → Heap → Prop} (I : List Nat) (Bs : List (Option Blk)) {K : Mem} {β : Nat → Nat → BT} {w : World} {vs : List Value}
    (h : ∀ β1 : Nat → Nat → BT, (∀ j v, β1 j v = β (rho I H.length j) v) → WS (given K β1 H0 w) K β1 H0 w → vs.length = ds0.length → (∀ (j : Nat) v d, vs[j]? = some v → ds0[j]? = some d → DR K β1 true v d) → (∀ d ∈ ds0, OkD H0 d) →
      T vs.toArray w fun e w' => ∃ v d K' β' H', Ext (given K β1 H0 w) K β1 H0 K' β' H' ∧ WS (given K β1 H0 w) K' β' H' w' ∧ DR K' β' true v d ∧ OkD H' d ∧ ((e = .returned v ∧ Q (.ret d) H') ∨ (e = .panicked [{ v, recovered := false }] ∧ Q (.pan d) H')))
    (hI : I.Nodup) (hP : Picks H I Bs) (hr : All2 (RenB (rho I H.length)) H0 Bs) (hds : All2 (Ren (rho I H.length)) ds0 ds)
    (hQ : ∀ o0 H0', Q o0 H0' → ∃ o Bs' News, Bs'.length = I.length ∧ All2 (RenB (rho I H.length)) H0' (Bs' ++ News) ∧ ORen (rho I H.length) o0 o ∧ Q' o (putI H I Bs' ++ News))
    (hw : WS (given K β H w) K β H w) (hl : vs.length = ds.length) (hv : ∀ (j : Nat) v d, vs[j]? = some v → ds[j]? = some d → DR K β true v d) (ho : ∀ d ∈ ds, OkD H d) :
    T vs.toArray w fun e w' => ∃ v d K' β' H', Ext (given K β H w) K β H K' β' H' ∧ WS (given K β H w) K' β' H' w' ∧ DR K' β' true v d ∧ OkD H' d ∧ ((e = .returned v ∧ Q' (.ret d) H') ∨ (e = .panicked [{ v, recovered := false }] ∧ Q' (.pan d) H')) := by
  obtain ⟨pl, pat⟩ := hP.at
  obtain ⟨rl, rat⟩ := hr.at
  obtain ⟨dl, dat⟩ := hds.at
  generalize hρ : rho I H.length = ρ at *
  have hI0 : H0.length = I.length := by omega
  have hin : ∀ j i, I[j]? = some i → ρ j = i := fun j i h => by rw [← hρ]; unfold rho; rw [h]
  have hout : ∀ j, I.length ≤ j → ρ j = H.length + (j - I.length) := fun j h => by rw [← hρ]; unfold rho; rw [List.getElem?_eq_none h]
  have hIlt : ∀ i ∈ I, i < H.length := fun i hi => by
    obtain ⟨j, hj⟩ := List.getElem?_of_mem hi
    have h1 := pat j i hj
    have hjl : j < Bs.length := by rw [← pl]; exact (List.getElem?_eq_some_iff.1 hj).1
    rw [List.getElem?_eq_getElem hjl] at h1
    exact (List.getElem?_eq_some_iff.1 h1).1
  have hinj : ∀ i j, ρ i = ρ j → i = j := fun i j e => by
    by_cases hi : i < I.length <;> by_cases hj : j < I.length
    · rw [hin i _ (List.getElem?_eq_getElem hi), hin j _ (List.getElem?_eq_getElem hj)] at e
      exact (List.getElem_inj hI).1 e
    · rw [hin i _ (List.getElem?_eq_getElem hi), hout j (by omega)] at e
      have := hIlt _ (List.getElem_mem hi); omega
    · rw [hin j _ (List.getElem?_eq_getElem hj), hout i (by omega)] at e
      have := hIlt _ (List.getElem_mem hj); omega
    · rw [hout i (by omega), hout j (by omega)] at e; omega
  -- what block j of the few is among the many
  have hblk : ∀ j b0, H0[j]? = some (some b0) → ∃ b, H[ρ j]? = some (some b) ∧ RenK ρ b0 b := fun j b0 hb0 => by
    have hj : j < I.length := by rw [← hI0]; exact (List.getElem?_eq_some_iff.1 hb0).1
    have h1 := pat j _ (List.getElem?_eq_getElem hj)
    rw [← hin j _ (List.getElem?_eq_getElem hj)] at h1
    have hjB : j < Bs.length := by omega
    have h2 := rat j _ _ hb0 (List.getElem?_eq_getElem hjB)
    rw [List.getElem?_eq_getElem hjB] at h1
    cases hB : Bs[j] with
    | none => rw [hB] at h2; cases h2
    | some b => rw [hB] at h1 h2; cases h2 with | blk h => exact ⟨b, h1, h⟩
  have hokV : ∀ j v, okV H (ρ j) v → okV H0 j v := fun j v hv => by
    have hlt := hv.lt
    have hj : j < I.length := by
      by_cases hj : j < I.length
      · exact hj
      · rw [hout j (by omega)] at hlt; omega
    have h1 := pat j _ (List.getElem?_eq_getElem hj)
    rw [← hin j _ (List.getElem?_eq_getElem hj)] at h1
    have hjB : j < Bs.length := by omega
    have hj0 : j < H0.length := by omega
    have h2 := rat j _ _ (List.getElem?_eq_getElem hj0) (List.getElem?_eq_getElem hjB)
    rw [List.getElem?_eq_getElem hjB] at h1
    unfold okV at hv ⊢
    rw [h1] at hv
    rw [List.getElem?_eq_getElem hj0]
    generalize H0[j] = x at *
    generalize Bs[j] = y at *
    cases h2 with
    | nil => trivial
    | blk h => simp only at hv ⊢; rw [h.ver]; exact hv
  let β1 : Nat → Nat → BT := fun j v => β (ρ j) v
  have hβ1 : ∀ j v, β1 j v = β (ρ j) v := fun _ _ => rfl
  have hgive : ∀ k, gives β1 H0 k → gives β H k := fun k ⟨j, b0, hb0, hr0, e⟩ => by
    obtain ⟨b, hb, hk⟩ := hblk j b0 hb0
    refine ⟨ρ j, b, hb, ?_, ?_⟩
    · rw [← hk.ver]; exact hr0
    · rw [← hk.ver]; exact e
  have hs : WS (given K β1 H0 w) K β1 H0 w := by
    refine ⟨hw.holds, fun j b0 hb0 => ?_, fun j b0 hb0 c hc => ?_, fun i j b b' hb hb' hri hrj he => ?_, fun j b0 hb0 hr0 => ?_, fun j b0 hb0 hr0 => .inr ⟨j, b0, hb0, hr0, rfl⟩, Nat.le_refl _, Bel.start _, Agr.refl _ _, HLe.refl _, Mem.le.refl _⟩
    · obtain ⟨b, hb, hk⟩ := hblk j b0 hb0
      have := hw.blk _ b hb
      rw [hβ1, hk.ver]
      exact hk.unblk hβ1 this
    · obtain ⟨b, hb, hk⟩ := hblk j b0 hb0
      obtain ⟨n, hn⟩ := List.getElem?_of_mem hc
      have hlt : n < b.cs.length := by rw [← hk.len]; exact (List.getElem?_eq_some_iff.1 hn).1
      exact OkD.unren hokV (hk.cs n c _ hn (List.getElem?_eq_getElem hlt)) (hw.ok _ b hb _ (List.getElem_mem hlt))
    · obtain ⟨c, hc, hk⟩ := hblk i b hb
      obtain ⟨c', hc', hk'⟩ := hblk j b' hb'
      rw [hβ1, hk.ver] at hri he
      rw [hβ1, hk'.ver] at hrj
      rw [hβ1, hk'.ver] at he
      exact hinj _ _ (hw.inj _ _ c c' hc hc' hri hrj he)
    · obtain ⟨b, hb, hk⟩ := hblk j b0 hb0
      rw [hβ1, hk.ver] at hr0 ⊢
      exact hw.apart _ b hb hr0
  refine hT (h β1 hβ1 hs (by omega) (fun j v d hv' hd => ?_) (fun d hd => ?_)) fun e w' ⟨v, d0, K', β', H0', hX, hs', hdr, hok, hout'⟩ => ?_
  · have hj : j < ds.length := by rw [← dl]; exact (List.getElem?_eq_some_iff.1 hd).1
    exact (hv j v _ hv' (List.getElem?_eq_getElem hj)).unren hβ1 (dat j d _ hd (List.getElem?_eq_getElem hj))
  · obtain ⟨j, hj⟩ := List.getElem?_of_mem hd
    have hlt : j < ds.length := by rw [← dl]; exact (List.getElem?_eq_some_iff.1 hj).1
    exact OkD.unren hokV (dat j d _ hj (List.getElem?_eq_getElem hlt)) (ho _ (List.getElem_mem hlt))
  · have hq : ∃ o0, Q o0 H0' ∧ ((e = .returned v ∧ o0 = .ret d0) ∨ (e = .panicked [{ v, recovered := false }] ∧ o0 = .pan d0)) := by
      rcases hout' with ⟨h1, h2⟩ | ⟨h1, h2⟩
      · exact ⟨_, h2, .inl ⟨h1, rfl⟩⟩
      · exact ⟨_, h2, .inr ⟨h1, rfl⟩⟩
    obtain ⟨o0, hQ0, hends⟩ := hq
    obtain ⟨o, Bs', News, hBl, hr', hoR, hQ'⟩ := hQ o0 H0' hQ0
    obtain ⟨rl', rat'⟩ := hr'.at
    rw [List.length_append, hBl] at rl'
    let β2 : Nat → Nat → BT := fun i v => match I.idxOf? i with
      | some j => β' j v
      | none => if i < H.length then β i v else β' (I.length + (i - H.length)) v
    have hidx : ∀ j i, I[j]? = some i → I.idxOf? i = some j := fun j i hj => by
      have hjl := (List.getElem?_eq_some_iff.1 hj).1
      have he := (List.getElem?_eq_some_iff.1 hj).2
      rw [List.idxOf?_eq_some_iff]
      refine ⟨hjl, he, fun k hk => ?_⟩
      intro e2
      have := (List.getElem_inj (h₀ := by omega) (h₁ := hjl) hI).1 (e2.trans he.symm)
      omega
    have hidn : ∀ i, i ∉ I → I.idxOf? i = none := fun i hi => by rw [List.idxOf?_eq_none_iff]; exact hi
    have hβ2 : ∀ j v, j < H0'.length → β2 (ρ j) v = β' j v := fun j v hj => by
      by_cases hjI : j < I.length
      · have := hin j _ (List.getElem?_eq_getElem hjI)
        rw [this]
        show (match I.idxOf? _ with | some j => _ | none => _) = _
        rw [hidx j _ (List.getElem?_eq_getElem hjI)]
      · rw [hout j (by omega)]
        show (match I.idxOf? _ with | some j => _ | none => _) = _
        rw [hidn _ (fun h => by have := hIlt _ h; omega)]
        simp only
        rw [if_neg (by omega), show I.length + (H.length + (j - I.length) - H.length) = j by omega]
    have hβ2r : ∀ i v, i ∉ I → i < H.length → β2 i v = β i v := fun i v hi hlt => by
      show (match I.idxOf? _ with | some j => _ | none => _) = _
      rw [hidn i hi]
      simp only
      rw [if_pos hlt]
    generalize hβ2e : β2 = β2' at hβ2 hβ2r
    have hH' : ∀ j, j < H0'.length → (putI H I Bs' ++ News)[ρ j]? = (Bs' ++ News)[j]? := fun j hj => by
      by_cases hjI : j < I.length
      · have h1 := hin j _ (List.getElem?_eq_getElem hjI)
        rw [h1, List.getElem?_append_left (by rw [putI_len]; exact hIlt _ (List.getElem_mem hjI)), List.getElem?_append_left (by omega), putI_in I Bs' H j _ hI hBl.symm hIlt (List.getElem?_eq_getElem hjI)]
      · rw [hout j (by omega), List.getElem?_append_right (by rw [putI_len]; omega), List.getElem?_append_right (by omega), putI_len]
        congr 1
        omega
    have hHr : ∀ i, i ∉ I → i < H.length → (putI H I Bs' ++ News)[i]? = H[i]? := fun i hi hlt => by
      rw [List.getElem?_append_left (by rw [putI_len]; exact hlt), putI_out I Bs' H i hi]
    -- every block of the many behind the call
    have hcase : ∀ i b, (putI H I Bs' ++ News)[i]? = some (some b) → (∃ j b0, i = ρ j ∧ H0'[j]? = some (some b0) ∧ RenK ρ b0 b) ∨ (i ∉ I ∧ i < H.length ∧ H[i]? = some (some b)) := fun i b hb => by
      have hlen : i < H.length + News.length := by have := (List.getElem?_eq_some_iff.1 hb).1; rw [List.length_append, putI_len] at this; exact this
      have few : ∀ j, i = ρ j → j < H0'.length → (∃ j b0, i = ρ j ∧ H0'[j]? = some (some b0) ∧ RenK ρ b0 b) := fun j e hj => by
        rw [e, hH' j hj] at hb
        have h2 := rat' j _ _ (List.getElem?_eq_getElem hj) hb
        cases hx : H0'[j] with
        | none => rw [hx] at h2; cases h2
        | some b0 => rw [hx] at h2; cases h2 with | blk h => exact ⟨j, b0, e, by rw [List.getElem?_eq_getElem hj, hx], h⟩
      by_cases hiI : i ∈ I
      · obtain ⟨j, hj⟩ := List.getElem?_of_mem hiI
        have hjl := (List.getElem?_eq_some_iff.1 hj).1
        exact .inl (few j (hin j i hj).symm (by omega))
      · by_cases hlt : i < H.length
        · exact .inr ⟨hiI, hlt, by rw [← hHr i hiI hlt]; exact hb⟩
        · exact .inl (few (I.length + (i - H.length)) (by rw [hout _ (by omega)]; omega) (by omega))
    have hokV' : ∀ j v, okV H0' j v → okV (putI H I Bs' ++ News) (ρ j) v := fun j v hv => by
      have hj := hv.lt
      have hjB : j < (Bs' ++ News).length := by rw [List.length_append, hBl]; omega
      have h2 := rat' j _ _ (List.getElem?_eq_getElem hj) (List.getElem?_eq_getElem hjB)
      unfold okV at hv ⊢
      rw [hH' j hj, List.getElem?_eq_getElem hjB]
      rw [List.getElem?_eq_getElem hj] at hv
      generalize H0'[j] = x at *
      generalize (Bs' ++ News)[j] = y at *
      cases h2 with
      | nil => trivial
      | blk h => simp only at hv ⊢; rw [← h.ver]; exact hv
    have hagr : Agr H β β2' := fun i v hv => by
      have hlt := hv.lt
      by_cases hiI : i ∈ I
      · obtain ⟨j, hj⟩ := List.getElem?_of_mem hiI
        have hjl := (List.getElem?_eq_some_iff.1 hj).1
        have e := hin j i hj
        rw [← e] at hv ⊢
        have h0 := hokV j v hv
        rw [hβ2 j v (by omega), hX.ag j v h0]
      · exact hβ2r i v hiI hlt
    have hle : HLe H (putI H I Bs' ++ News) := fun i v hv => by
      have hlt := hv.lt
      by_cases hiI : i ∈ I
      · obtain ⟨j, hj⟩ := List.getElem?_of_mem hiI
        have e := hin j i hj
        rw [← e] at hv ⊢
        exact hokV' j v (hX.le j v (hokV j v hv))
      · unfold okV at hv ⊢
        rw [hHr i hiI hlt]; exact hv
    have hnotg : ∀ i b, i ∉ I → H[i]? = some (some b) → (β i b.ver).real = true → ¬ gives β1 H0 (β i b.ver).blk := fun i b hiI hb hrl ⟨j, b0, hb0, hr0, e⟩ => by
      obtain ⟨c, hc, hk⟩ := hblk j b0 hb0
      rw [hβ1, hk.ver] at hr0 e
      have := hw.inj _ _ c b hc hb hr0 hrl e
      have hj : j < I.length := by rw [← hI0]; exact (List.getElem?_eq_some_iff.1 hb0).1
      rw [hin j _ (List.getElem?_eq_getElem hj)] at this
      exact hiI (by rw [← this]; exact List.getElem_mem hj)
    have hwsN : WS (given K β H w) K' β2' (putI H I Bs' ++ News) w' := by
      refine ⟨hs'.holds, fun i b hb => ?_, fun i b hb c hc => ?_, fun i j b b' hb hb' hri hrj he => ?_, fun i b hb hr0 => ?_, fun i b hb hr0 => ?_, hs'.size, ⟨hs'.below.os, hs'.below.tape, hs'.below.output, hs'.below.size, fun k hk hg => hs'.below.block k hk fun h => hg (hgive k h)⟩, hagr, hle, hX.kx.le⟩
      · rcases hcase i b hb with ⟨j, b0, rfl, hb0, hk⟩ | ⟨hiI, hlt, hb1⟩
        · have hj := (List.getElem?_eq_some_iff.1 hb0).1
          rw [hβ2 j _ hj, ← hk.ver]
          exact hk.blk hβ2 (hs'.ok j b0 hb0) (hs'.blk j b0 hb0)
        · rw [hβ2r i _ hiI hlt]
          refine ((hw.blk i b hb1).mono hX.kx.le (hw.ok i b hb1) hagr).other fun hrl => ?_
          exact hs'.below.block _ (hw.lt hb1 hrl) (hnotg i b hiI hb1 hrl)
      · rcases hcase i b hb with ⟨j, b0, rfl, hb0, hk⟩ | ⟨hiI, hlt, hb1⟩
        · obtain ⟨n, hn⟩ := List.getElem?_of_mem hc
          have hlt : n < b0.cs.length := by rw [hk.len]; exact (List.getElem?_eq_some_iff.1 hn).1
          exact OkD.ren hokV' (hk.cs n _ c (List.getElem?_eq_getElem hlt) hn) (hs'.ok j b0 hb0 _ (List.getElem_mem hlt))
        · exact (hw.ok i b hb1 c hc).mono hle
      · have mixed : ∀ {i j : Nat} {b0 b : Blk}, H0'[i]? = some (some b0) → (β' i b0.ver).real = true → j ∉ I → H[j]? = some (some b) → (β j b.ver).real = true → (β' i b0.ver).blk ≠ (β j b.ver).blk := fun {i j b0 b} hb0 hr0 hjI hb hrl e => by
          rcases hs'.base i b0 hb0 hr0 with h1 | h1
          · have := hw.lt hb hrl
            have h1' : w.heap.size ≤ (β' i b0.ver).blk := h1
            omega
          · rw [e] at h1; exact hnotg j b hjI hb hrl h1
        rcases hcase i b hb with ⟨i', b0, rfl, hb0, hk⟩ | ⟨hiI, hlt, hb1⟩ <;> rcases hcase j b' hb' with ⟨j', b0', rfl, hb0', hk'⟩ | ⟨hjI, hlt', hb1'⟩
        · have hi := (List.getElem?_eq_some_iff.1 hb0).1
          have hj := (List.getElem?_eq_some_iff.1 hb0').1
          rw [hβ2 i' _ hi, ← hk.ver] at hri he
          rw [hβ2 j' _ hj, ← hk'.ver] at hrj he
          rw [hs'.inj i' j' b0 b0' hb0 hb0' hri hrj he]
        · have hi := (List.getElem?_eq_some_iff.1 hb0).1
          rw [hβ2 i' _ hi, ← hk.ver] at hri he
          rw [hβ2r j _ hjI hlt'] at hrj he
          exact absurd he (mixed hb0 hri hjI hb1' hrj)
        · have hj := (List.getElem?_eq_some_iff.1 hb0').1
          rw [hβ2 j' _ hj, ← hk'.ver] at hrj he
          rw [hβ2r i _ hiI hlt] at hri he
          exact absurd he.symm (mixed hb0' hrj hiI hb1 hri)
        · rw [hβ2r i _ hiI hlt] at hri he
          rw [hβ2r j _ hjI hlt'] at hrj he
          exact hw.inj i j b b' hb1 hb1' hri hrj he
      · rcases hcase i b hb with ⟨j, b0, rfl, hb0, hk⟩ | ⟨hiI, hlt, hb1⟩
        · have hj := (List.getElem?_eq_some_iff.1 hb0).1
          rw [hβ2 j _ hj, ← hk.ver] at hr0 ⊢
          exact hs'.apart j b0 hb0 hr0
        · rw [hβ2r i _ hiI hlt] at hr0 ⊢
          cases hK : K' (β i b.ver).blk with
          | none => rfl
          | some c =>
            rcases hX.kx.new _ _ hK with h1 | h1 | h1
            · rw [hw.apart i b hb1 hr0] at h1; cases h1
            · have := hw.lt hb1 hr0
              have h1' : w.heap.size ≤ (β i b.ver).blk := h1
              omega
            · exact absurd h1 (hnotg i b hiI hb1 hr0)
      · rcases hcase i b hb with ⟨j, b0, rfl, hb0, hk⟩ | ⟨hiI, hlt, hb1⟩
        · have hj := (List.getElem?_eq_some_iff.1 hb0).1
          rw [hβ2 j _ hj, ← hk.ver] at hr0 ⊢
          rcases hs'.base j b0 hb0 hr0 with h1 | h1
          · exact .inl h1
          · exact .inr (hgive _ h1)
        · rw [hβ2r i _ hiI hlt] at hr0 ⊢
          exact .inr ⟨i, b, hb1, hr0, rfl⟩
    have hXN : Ext (given K β H w) K β H K' β2' (putI H I Bs' ++ News) := ⟨hX.kx.mono fun k hk => hk.imp id (hgive k), hagr, hle⟩
    rcases hends with ⟨rfl, rfl⟩ | ⟨rfl, rfl⟩
    · cases hoR with
      | @ret c d hd => exact ⟨v, d, K', β2', _, hXN, hwsN, hdr.ren hβ2 hd hok, OkD.ren hokV' hd hok, .inl ⟨rfl, hQ'⟩⟩
    · cases hoR with
      | @pan c d hd => exact ⟨v, d, K', β2', _, hXN, hwsN, hdr.ren hβ2 hd hok, OkD.ren hokV' hd hok, .inr ⟨rfl, hQ'⟩⟩
theorem FunM.frame' {P : Program} {f : FuncId} {ds0 ds : List D} {H0 H : Heap} {Q Q' : DOut → Heap → Prop} (I : List Nat) (Bs : List (Option Blk)) (h : FunM P f ds0 H0 Q) (hI : I.Nodup) (hP : Picks H I Bs) (hr : All2 (RenB (rho I H.length)) H0 Bs) (hds : All2 (Ren (rho I H.length)) ds0 ds)
    (hQ : ∀ o0 H0', Q o0 H0' → ∃ o Bs' News, Bs'.length = I.length ∧ All2 (RenB (rho I H.length)) H0' (Bs' ++ News) ∧ ORen (rho I H.length) o0 o ∧ Q' o (putI H I Bs' ++ News)) : FunM P f ds H Q' :=
  fun K β w vs hw hl hv ho => frameAt (T := fun as w R => Calls P f as w R) (fun h hr => h.mono hr) I Bs (fun β1 _ => h K β1 w vs) hI hP hr hds hQ hw hl hv ho
/-- The same where one outcome is known. -/
theorem FunM.frame {P : Program} {f : FuncId} {ds0 ds : List D} {H0 H H0' H' : Heap} {d0 d : D} (I : List Nat) (Bs Bs' News : List (Option Blk)) (h : FunM P f ds0 H0 fun o H' => o = .ret d0 ∧ H' = H0') (hI : I.Nodup) (hP : Picks H I Bs) (hr : All2 (RenB (rho I H.length)) H0 Bs) (hds : All2 (Ren (rho I H.length)) ds0 ds)
    (hl : Bs'.length = I.length) (hr' : All2 (RenB (rho I H.length)) H0' (Bs' ++ News)) (hd : Ren (rho I H.length) d0 d) (hH : putI H I Bs' ++ News = H') : FunM P f ds H fun o H'' => o = .ret d ∧ H'' = H' :=
  h.frame' I Bs hI hP hr hds fun o0 H1 ⟨e1, e2⟩ => ⟨.ret d, Bs', News, hl, by rw [e2]; exact hr', by rw [e1]; exact .ret hd, rfl, hH⟩
end Go.DL
