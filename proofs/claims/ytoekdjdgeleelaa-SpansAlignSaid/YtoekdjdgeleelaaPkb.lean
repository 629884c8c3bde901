/-
  What the laws stand on, part 2 of 4: plain lemmas; no condition.
-/
import Derived.Test.YtoekdjdgeleelaaPka
set_option linter.unusedSimpArgs false
set_option linter.unusedVariables false
set_option linter.unusedSectionVars false
namespace Go.DL
open Go.RowKit

/-- Block j of the few is block 'rho I n j' of the many: those that were there are at the places of I, the new ones stand behind all n. -/
def rho (I : List Nat) (n j : Nat) : Nat := match I[j]? with
  | some i => i
  | none => n + (j - I.length)
/-- The same datum, its blocks called by their other numbers. -/
inductive Ren (ρ : Nat → Nat) : D → D → Prop
  | pure (d : D) (h : Pure' d) : Ren ρ d d
  | own (id ver off n sz : Nat) {i : Nat} (h : ρ id = i) : Ren ρ (.own id ver off n sz) (.own i ver off n sz)
  | ptr (id ver off : Nat) {i : Nat} (h : ρ id = i) : Ren ρ (.ptr id ver off) (.ptr i ver off)
  | omp (id ver : Nat) {i : Nat} (h : ρ id = i) : Ren ρ (.omp id ver) (.omp i ver)
  | agg (cs ds : List D) (hl : cs.length = ds.length) (h : ∀ (j : Nat) c d, cs[j]? = some c → ds[j]? = some d → Ren ρ c d) : Ren ρ (.agg cs) (.agg ds)
  | tup (cs ds : List D) (hl : cs.length = ds.length) (h : ∀ (j : Nat) c d, cs[j]? = some c → ds[j]? = some d → Ren ρ c d) : Ren ρ (.tup cs) (.tup ds)
  | fn (f : Fn) (cs ds : List D) (hl : cs.length = ds.length) (h : ∀ (j : Nat) c d, cs[j]? = some c → ds[j]? = some d → Ren ρ c d) : Ren ρ (.fn f cs) (.fn f ds)
  | iface (t : TypeId) (c d : D) (h : Ren ρ c d) : Ren ρ (.iface t c) (.iface t d)
/-- Lists, one by one. -/
def All2 {α β : Type} (R : α → β → Prop) : List α → List β → Prop
  | [], [] => True
  | a :: l, b :: m => R a b ∧ All2 R l m
  | _, _ => False
theorem All2.at {α β : Type} {R : α → β → Prop} : ∀ {l : List α} {m : List β}, All2 R l m → l.length = m.length ∧ ∀ (j : Nat) a b, l[j]? = some a → m[j]? = some b → R a b
  | [], [], _ => ⟨rfl, by simp⟩
  | a :: l, b :: m, h => by
    obtain ⟨h1, h2⟩ := h.2.at
    refine ⟨by simp [h1], fun j x y hx hy => ?_⟩
    rcases j with _ | j
    · simp at hx hy; subst hx hy; exact h.1
    · exact h2 j x y (by simpa using hx) (by simpa using hy)
  | [], _ :: _, h => h.elim
  | _ :: _, [], h => h.elim
structure RenK (ρ : Nat → Nat) (b b' : Blk) : Prop where
  e : b.e = b'.e
  grow : b.grow = b'.grow
  ver : b.ver = b'.ver
  len : b.cs.length = b'.cs.length
  cs : ∀ (j : Nat) c d, b.cs[j]? = some c → b'.cs[j]? = some d → Ren ρ c d
inductive RenB (ρ : Nat → Nat) : Option Blk → Option Blk → Prop
  | nil : RenB ρ none none
  | blk {b b' : Blk} (h : RenK ρ b b') : RenB ρ (some b) (some b')
theorem RenB.pure {ρ : Nat → Nat} {b : Blk} (h : ∀ c ∈ b.cs, Pure' c) : RenB ρ (some b) (some b) := .blk ⟨rfl, rfl, rfl, rfl, fun j c d hc hd => by
  rw [hc] at hd; cases hd; exact .pure _ (h c (List.mem_of_getElem? hc))⟩
def Picks (H : Heap) : List Nat → List (Option Blk) → Prop
  | [], [] => True
  | i :: I, b :: Bs => H[i]? = some b ∧ Picks H I Bs
  | _, _ => False
theorem Picks.at {H : Heap} : ∀ {I : List Nat} {Bs : List (Option Blk)}, Picks H I Bs → I.length = Bs.length ∧ ∀ (j : Nat) i, I[j]? = some i → H[i]? = Bs[j]?
  | [], [], _ => ⟨rfl, by simp⟩
  | i :: I, b :: Bs, h => by
    obtain ⟨h1, h2⟩ := h.2.at
    refine ⟨by simp [h1], fun j x hx => ?_⟩
    rcases j with _ | j
    · simp at hx; subst hx; exact h.1
    · exact h2 j x (by simpa using hx)
  | [], _ :: _, h => h.elim
  | _ :: _, [], h => h.elim
def putI (H : Heap) : List Nat → List (Option Blk) → Heap
  | [], _ => H
  | _ :: _, [] => H
  | i :: I, b :: Bs => putI (H.set i b) I Bs
theorem putI_len : ∀ (I : List Nat) (Bs : List (Option Blk)) (H : Heap), (putI H I Bs).length = H.length
  | [], _, _ => by rw [putI]
  | _ :: _, [], _ => by rw [putI]
  | i :: I, b :: Bs, H => by rw [putI, putI_len I Bs]; simp
theorem putI_out : ∀ (I : List Nat) (Bs : List (Option Blk)) (H : Heap) (k : Nat), k ∉ I → (putI H I Bs)[k]? = H[k]?
  | [], _, _, _, _ => by rw [putI]
  | _ :: _, [], _, _, _ => by rw [putI]
  | i :: I, b :: Bs, H, k, hk => by
    rw [putI, putI_out I Bs _ k (fun h => hk (List.mem_cons_of_mem _ h)), List.getElem?_set, if_neg (fun h => hk (by rw [h]; exact List.mem_cons_self))]
theorem putI_in : ∀ (I : List Nat) (Bs : List (Option Blk)) (H : Heap) (j i : Nat), I.Nodup → I.length = Bs.length → (∀ i ∈ I, i < H.length) → I[j]? = some i → (putI H I Bs)[i]? = Bs[j]?
  | [], _, _, j, i, _, _, _, h => by simp at h
  | _ :: _, [], _, _, _, _, hl, _, _ => by simp at hl
  | i' :: I, b :: Bs, H, j, i, hn, hl, hlt, h => by
    rw [putI]
    rcases j with _ | j
    · simp at h; subst h
      rw [putI_out I Bs _ _ (List.nodup_cons.1 hn).1, List.getElem?_set_self (hlt _ List.mem_cons_self)]; rfl
    · rw [putI_in I Bs _ j i (List.nodup_cons.1 hn).2 (by simpa using hl) (fun k hk => by rw [List.length_set]; exact hlt k (List.mem_cons_of_mem _ hk)) (by simpa using h)]; rfl

theorem Pure'.ok {d : D} (h : Pure' d) (H : Heap) : OkD H d := by
  induction h with
  | any => exact .any
  | v x => exact .v x
  | rd n cs => exact .rd n cs
  | adr cs => exact .adr cs
  | agg cs _ ih => exact .agg cs ih
  | tup cs _ ih => exact .tup cs ih
  | fn f cs _ ih => exact .fn f cs ih
  | iface t d _ ih => exact .iface t d ih
  | mp ks cs => exact .mp ks cs
theorem DR.pureβ {K : Mem} {β β' : Nat → Nat → BT} {m : Bool} {x : Value} {d : D} (h : DR K β m x d) (hp : Pure' d) : DR K β' m x d := by
  have := (h.down hp).pure (β' := β') rfl
  cases m with
  | false => exact this
  | true => exact this.up rfl
theorem DR.unren {K : Mem} {β β' : Nat → Nat → BT} {ρ : Nat → Nat} (hβ : ∀ j v, β' j v = β (ρ j) v) {c d : D} (hr : Ren ρ c d) : ∀ {m : Bool} {x : Value}, DR K β m x d → DR K β' m x c := by
  induction hr with
  | pure d h => intro m x hx; exact hx.pureβ h
  | own id ver off n sz h =>
    subst h
    intro m x hx
    cases hx with
    | own _ _ _ _ _ c hn hm hc hr => rw [← hβ] at hc hr ⊢; exact .own id ver off n sz c hn hm hc hr
    | own0 _ _ _ hr => rw [← hβ] at hr; exact .own0 id ver sz hr
  | ptr id ver off h =>
    subst h
    intro m x hx
    cases hx with
    | ptr _ _ _ hr => rw [← hβ] at hr ⊢; exact .ptr id ver off hr
  | omp id ver h =>
    subst h
    intro m x hx
    cases hx with
    | omp _ _ hr => rw [← hβ] at hr ⊢; exact .omp id ver hr
  | agg cs ds hl _ ih =>
    intro m x hx
    cases hx with
    | agg _ us _ hl' hd =>
      exact .agg _ us cs (by omega) fun j u c hu hc => by
        have hj : j < ds.length := by rw [← hl]; exact (List.getElem?_eq_some_iff.1 hc).1
        exact ih j c ds[j] hc (List.getElem?_eq_getElem hj) (hd j u _ hu (List.getElem?_eq_getElem hj))
  | tup cs ds hl _ ih =>
    intro m x hx
    cases hx with
    | tup _ us _ hl' hd =>
      exact .tup _ us cs (by omega) fun j u c hu hc => by
        have hj : j < ds.length := by rw [← hl]; exact (List.getElem?_eq_some_iff.1 hc).1
        exact ih j c ds[j] hc (List.getElem?_eq_getElem hj) (hd j u _ hu (List.getElem?_eq_getElem hj))
  | fn f cs ds hl _ ih =>
    intro m x hx
    cases hx with
    | fn _ _ us _ hl' hd =>
      exact .fn _ f us cs (by omega) fun j u c hu hc => by
        have hj : j < ds.length := by rw [← hl]; exact (List.getElem?_eq_some_iff.1 hc).1
        exact ih j c ds[j] hc (List.getElem?_eq_getElem hj) (hd j u _ hu (List.getElem?_eq_getElem hj))
  | iface t c d _ ih =>
    intro m x hx
    obtain ⟨u, rfl, hu⟩ := hx.iface_inv
    exact .iface _ t u c (ih hu)
theorem DR.ren {K : Mem} {β β' : Nat → Nat → BT} {ρ : Nat → Nat} {H : Heap} (hβ : ∀ j v, j < H.length → β' (ρ j) v = β j v) {c d : D} (hr : Ren ρ c d) : OkD H c → ∀ {m : Bool} {x : Value}, DR K β m x c → DR K β' m x d := by
  induction hr with
  | pure d h => intro _ m x hx; exact hx.pureβ h
  | own id ver off n sz h =>
    subst h
    intro ho m x hx
    have hid : id < H.length := by cases ho with | own _ _ _ _ _ h => exact h.lt
    have e := hβ id ver hid
    cases hx with
    | own _ _ _ _ _ c hn hm hc hr => rw [← e] at hc hr ⊢; exact .own _ ver off n sz c hn hm hc hr
    | own0 _ _ _ hr => rw [← e] at hr; exact .own0 _ ver sz hr
  | ptr id ver off h =>
    subst h
    intro ho m x hx
    have hid : id < H.length := by cases ho with | ptr _ _ _ h => exact h.lt
    have e := hβ id ver hid
    cases hx with
    | ptr _ _ _ hr => rw [← e] at hr ⊢; exact .ptr _ ver off hr
  | omp id ver h =>
    subst h
    intro ho m x hx
    have hid : id < H.length := by cases ho with | omp _ _ h => exact h.lt
    have e := hβ id ver hid
    cases hx with
    | omp _ _ hr => rw [← e] at hr ⊢; exact .omp _ ver hr
  | agg cs ds hl _ ih =>
    intro ho m x hx
    cases ho with
    | agg _ ho =>
      cases hx with
      | agg _ us _ hl' hd =>
        exact .agg _ us ds (by omega) fun j u d hu hd' => by
          have hj : j < cs.length := by rw [hl]; exact (List.getElem?_eq_some_iff.1 hd').1
          exact ih j cs[j] d (List.getElem?_eq_getElem hj) hd' (ho _ (List.getElem_mem hj)) (hd j u _ hu (List.getElem?_eq_getElem hj))
  | tup cs ds hl _ ih =>
    intro ho m x hx
    cases ho with
    | tup _ ho =>
      cases hx with
      | tup _ us _ hl' hd =>
        exact .tup _ us ds (by omega) fun j u d hu hd' => by
          have hj : j < cs.length := by rw [hl]; exact (List.getElem?_eq_some_iff.1 hd').1
          exact ih j cs[j] d (List.getElem?_eq_getElem hj) hd' (ho _ (List.getElem_mem hj)) (hd j u _ hu (List.getElem?_eq_getElem hj))
  | fn f cs ds hl _ ih =>
    intro ho m x hx
    cases ho with
    | fn _ _ ho =>
      cases hx with
      | fn _ _ us _ hl' hd =>
        exact .fn _ f us ds (by omega) fun j u d hu hd' => by
          have hj : j < cs.length := by rw [hl]; exact (List.getElem?_eq_some_iff.1 hd').1
          exact ih j cs[j] d (List.getElem?_eq_getElem hj) hd' (ho _ (List.getElem_mem hj)) (hd j u _ hu (List.getElem?_eq_getElem hj))
  | iface t c d _ ih =>
    intro ho m x hx
    cases ho with
    | iface _ _ ho =>
      obtain ⟨u, rfl, hu⟩ := hx.iface_inv
      exact .iface _ t u d (ih ho hu)
theorem OkD.ren {ρ : Nat → Nat} {H H' : Heap} (hv : ∀ j v, okV H j v → okV H' (ρ j) v) {c d : D} (hr : Ren ρ c d) : OkD H c → OkD H' d := by
  induction hr with
  | pure d h => intro _; exact h.ok _
  | own id ver off n sz h => subst h; intro ho; cases ho with | own _ _ _ _ _ h => exact .own _ _ _ _ _ (hv _ _ h)
  | ptr id ver off h => subst h; intro ho; cases ho with | ptr _ _ _ h => exact .ptr _ _ _ (hv _ _ h)
  | omp id ver h => subst h; intro ho; cases ho with | omp _ _ h => exact .omp _ _ (hv _ _ h)
  | agg cs ds hl _ ih =>
    intro ho
    cases ho with
    | agg _ ho =>
      exact .agg _ fun d hd => by
        obtain ⟨j, hj⟩ := List.getElem?_of_mem hd
        have hlt : j < cs.length := by rw [hl]; exact (List.getElem?_eq_some_iff.1 hj).1
        exact ih j cs[j] d (List.getElem?_eq_getElem hlt) hj (ho _ (List.getElem_mem hlt))
  | tup cs ds hl _ ih =>
    intro ho
    cases ho with
    | tup _ ho =>
      exact .tup _ fun d hd => by
        obtain ⟨j, hj⟩ := List.getElem?_of_mem hd
        have hlt : j < cs.length := by rw [hl]; exact (List.getElem?_eq_some_iff.1 hj).1
        exact ih j cs[j] d (List.getElem?_eq_getElem hlt) hj (ho _ (List.getElem_mem hlt))
  | fn f cs ds hl _ ih =>
    intro ho
    cases ho with
    | fn _ _ ho =>
      exact .fn _ _ fun d hd => by
        obtain ⟨j, hj⟩ := List.getElem?_of_mem hd
        have hlt : j < cs.length := by rw [hl]; exact (List.getElem?_eq_some_iff.1 hj).1
        exact ih j cs[j] d (List.getElem?_eq_getElem hlt) hj (ho _ (List.getElem_mem hlt))
  | iface t c d _ ih =>
    intro ho
    cases ho with
    | iface _ _ ho => exact .iface _ _ (ih ho)
theorem OkD.unren {ρ : Nat → Nat} {H H' : Heap} (hv : ∀ j v, okV H' (ρ j) v → okV H j v) {c d : D} (hr : Ren ρ c d) : OkD H' d → OkD H c := by
  induction hr with
  | pure d h => intro _; exact h.ok _
  | own id ver off n sz h => subst h; intro ho; cases ho with | own _ _ _ _ _ h => exact .own _ _ _ _ _ (hv _ _ h)
  | ptr id ver off h => subst h; intro ho; cases ho with | ptr _ _ _ h => exact .ptr _ _ _ (hv _ _ h)
  | omp id ver h => subst h; intro ho; cases ho with | omp _ _ h => exact .omp _ _ (hv _ _ h)
  | agg cs ds hl _ ih =>
    intro ho
    cases ho with
    | agg _ ho =>
      exact .agg _ fun c hc => by
        obtain ⟨j, hj⟩ := List.getElem?_of_mem hc
        have hlt : j < ds.length := by rw [← hl]; exact (List.getElem?_eq_some_iff.1 hj).1
        exact ih j c ds[j] hj (List.getElem?_eq_getElem hlt) (ho _ (List.getElem_mem hlt))
  | tup cs ds hl _ ih =>
    intro ho
    cases ho with
    | tup _ ho =>
      exact .tup _ fun c hc => by
        obtain ⟨j, hj⟩ := List.getElem?_of_mem hc
        have hlt : j < ds.length := by rw [← hl]; exact (List.getElem?_eq_some_iff.1 hj).1
        exact ih j c ds[j] hj (List.getElem?_eq_getElem hlt) (ho _ (List.getElem_mem hlt))
  | fn f cs ds hl _ ih =>
    intro ho
    cases ho with
    | fn _ _ ho =>
      exact .fn _ _ fun c hc => by
        obtain ⟨j, hj⟩ := List.getElem?_of_mem hc
        have hlt : j < ds.length := by rw [← hl]; exact (List.getElem?_eq_some_iff.1 hj).1
        exact ih j c ds[j] hj (List.getElem?_eq_getElem hlt) (ho _ (List.getElem_mem hlt))
  | iface t c d _ ih =>
    intro ho
    cases ho with
    | iface _ _ ho => exact .iface _ _ (ih ho)
theorem Ren.v_inv {ρ : Nat → Nat} {c : D} {x : Value} (h : Ren ρ c (.v x)) : c = .v x := by cases h; rfl
theorem Ren.v_inv' {ρ : Nat → Nat} {d : D} {x : Value} (h : Ren ρ (.v x) d) : d = .v x := by cases h; rfl
theorem RenK.unblk {K : Mem} {β β' : Nat → Nat → BT} {ρ : Nat → Nat} {b b' : Blk} {t : BT} {o : Option Obj} (hβ : ∀ j v, β' j v = β (ρ j) v) (h : RenK ρ b b') (hb : BlkR K β t b' o) : BlkR K β' t b o := by
  have hlen := h.len
  unfold BlkR at *
  cases hs : t.st with
  | none => rw [hs] at hb; simp only at hb ⊢; rw [hb] at hlen; exact List.eq_nil_of_length_eq_zero (by simpa using hlen)
  | cells =>
    rw [hs] at hb
    obtain ⟨us, rest, e, hl, ht, hg, hd⟩ := hb
    refine ⟨us, rest, by rw [h.e]; exact e, by omega, ht, by rw [h.grow]; exact hg, fun j u c hu hc => ?_⟩
    have hj : j < b'.cs.length := by rw [← hlen]; exact (List.getElem?_eq_some_iff.1 hc).1
    exact (hd j u _ hu (List.getElem?_eq_getElem hj)).unren hβ (h.cs j c _ hc (List.getElem?_eq_getElem hj))
  | map =>
    rw [hs] at hb
    obtain ⟨es, ck, e, hE⟩ := hb
    have hel := hE.len
    refine ⟨es, ck, e, by omega, fun j u c hu hc => ?_, hE.born, hE.clock⟩
    have hj : j < b'.cs.length := by rw [← hlen]; exact (List.getElem?_eq_some_iff.1 hc).1
    obtain ⟨dv, e1, hdv⟩ := hE.rd j u _ hu (List.getElem?_eq_getElem hj)
    have hr := h.cs j c _ hc (List.getElem?_eq_getElem hj)
    rw [e1] at hr
    cases hr with
    | pure _ hp =>
      cases hp with
      | tup _ hp => exact ⟨dv, rfl, hdv.pureβ (hp dv (by simp))⟩
    | tup cs _ hl2 hh =>
      match cs, hl2 with
      | [c0, c1], _ =>
        have := (hh 0 c0 (.v u.key) rfl rfl).v_inv
        subst this
        exact ⟨c1, rfl, hdv.unren hβ (hh 1 c1 dv rfl rfl)⟩
theorem RenK.blk {K : Mem} {β β' : Nat → Nat → BT} {ρ : Nat → Nat} {H : Heap} {b b' : Blk} {t : BT} {o : Option Obj} (hβ : ∀ j v, j < H.length → β' (ρ j) v = β j v) (ho : ∀ c ∈ b.cs, OkD H c) (h : RenK ρ b b') (hb : BlkR K β t b o) : BlkR K β' t b' o := by
  have hlen := h.len
  unfold BlkR at *
  cases hs : t.st with
  | none => rw [hs] at hb; simp only at hb ⊢; rw [hb] at hlen; exact List.eq_nil_of_length_eq_zero (by simpa using hlen.symm)
  | cells =>
    rw [hs] at hb
    obtain ⟨us, rest, e, hl, ht, hg, hd⟩ := hb
    refine ⟨us, rest, by rw [← h.e]; exact e, by omega, ht, by rw [← h.grow]; exact hg, fun j u d hu hd' => ?_⟩
    have hj : j < b.cs.length := by rw [hlen]; exact (List.getElem?_eq_some_iff.1 hd').1
    exact (hd j u _ hu (List.getElem?_eq_getElem hj)).ren hβ (h.cs j _ d (List.getElem?_eq_getElem hj) hd') (ho _ (List.getElem_mem hj))
  | map =>
    rw [hs] at hb
    obtain ⟨es, ck, e, hE⟩ := hb
    have hel := hE.len
    refine ⟨es, ck, e, by omega, fun j u d hu hd' => ?_, hE.born, hE.clock⟩
    have hj : j < b.cs.length := by rw [hlen]; exact (List.getElem?_eq_some_iff.1 hd').1
    obtain ⟨dv, e1, hdv⟩ := hE.rd j u _ hu (List.getElem?_eq_getElem hj)
    have hok := ho _ (List.getElem_mem hj)
    have hr := h.cs j _ d (List.getElem?_eq_getElem hj) hd'
    rw [e1] at hr hok
    cases hok with
    | tup _ hok =>
      cases hr with
      | pure _ hp =>
        cases hp with
        | tup _ hp => exact ⟨dv, rfl, hdv.pureβ (hp dv (by simp))⟩
      | tup _ ds hl2 hh =>
        match ds, hl2 with
        | [d0, d1], _ =>
          have := (hh 0 (.v u.key) d0 rfl rfl).v_inv'
          subst this
          exact ⟨d1, rfl, hdv.ren hβ (hh 1 dv d1 rfl rfl) (hok dv (by simp))⟩

inductive ORen (ρ : Nat → Nat) : DOut → DOut → Prop
  | ret {c d : D} (h : Ren ρ c d) : ORen ρ (.ret c) (.ret d)
  | pan {c d : D} (h : Ren ρ c d) : ORen ρ (.pan c) (.pan d)
theorem frameAt {T : Array Value → World → (Ending → World → Prop) → Prop} (hT : ∀ {as_ : Array Value} {w : World} {R R' : Ending → World → Prop}, T as_ w R → (∀ e w, R e w → R' e w) → T as_ w R') {ds0 ds : List D} {H0 H : Heap} {Q Q' : DOut → Heap → Prop} (I : List Nat) (Bs : List (Option Blk)) {K : Mem} {β : Nat → Nat → BT} {w : World} {vs : List Value}
    (h : ∀ β1 : Nat → Nat → BT, (∀ j v, β1 j v = β (rho I H.length j) v) → WS (given K β1 H0 w) K β1 H0 w → vs.length = ds0.length → (∀ (j : Nat) v d, vs[j]? = some v → ds0[j]? = some d → DR K β1 true v d) → (∀ d ∈ ds0, OkD H0 d) →
      T vs.toArray w fun e w' => ∃ v d K' β' H', Ext (given K β1 H0 w) K β1 H0 K' β' H' ∧ WS (given K β1 H0 w) K' β' H' w' ∧ DR K' β' true v d ∧ OkD H' d ∧ ((e = .returned v ∧ Q (.ret d) H') ∨ (e = .panicked [{ v, recovered := false }] ∧ Q (.pan d) H')))
    (hI : I.Nodup) (hP : Picks H I Bs) (hr : All2 (RenB (rho I H.length)) H0 Bs) (hds : All2 (Ren (rho I H.length)) ds0 ds)
    (hQ : ∀ o0 H0', Q o0 H0' → ∃ o Bs' News, Bs'.length = I.length ∧ All2 (RenB (rho I H.length)) H0' (Bs' ++ News) ∧ ORen (rho I H.length) o0 o ∧ Q' o (putI H I Bs' ++ News))
    (hw : WS (given K β H w) K β H w) (hl : vs.length = ds.length) (hv : ∀ (j : Nat) v d, vs[j]? = some v → ds[j]? = some d → DR K β true v d) (ho : ∀ d ∈ ds, OkD H d) :
    T vs.toArray w fun e w' => ∃ v d K' β' H', Ext (given K β H w) K β H K' β' H' ∧ WS (given K β H w) K' β' H' w' ∧ DR K' β' true v d ∧ OkD H' d ∧ ((e = .returned v ∧ Q' (.ret d) H') ∨ (e = .panicked [{ v, recovered := false }] ∧ Q' (.pan d) H')) := by
  obtain ⟨pl, pat⟩ := hP.at
  obtain ⟨rl, rat⟩ := hr.at
  obtain ⟨dl, dat⟩ := hds.at
  generalize hρ : rho I H.length = ρ at *
  have hI0 : H0.length = I.length := by omega
  have hin : ∀ j i, I[j]? = some i → ρ j = i := fun j i h => by rw [← hρ]; unfold rho; rw [h]
  have hout : ∀ j, I.length ≤ j → ρ j = H.length + (j - I.length) := fun j h => by rw [← hρ]; unfold rho; rw [List.getElem?_eq_none h]
  have hIlt : ∀ i ∈ I, i < H.length := fun i hi => by
    obtain ⟨j, hj⟩ := List.getElem?_of_mem hi
    have h1 := pat j i hj
    have hjl : j < Bs.length := by rw [← pl]; exact (List.getElem?_eq_some_iff.1 hj).1
    rw [List.getElem?_eq_getElem hjl] at h1
    exact (List.getElem?_eq_some_iff.1 h1).1
  have hinj : ∀ i j, ρ i = ρ j → i = j := fun i j e => by
    by_cases hi : i < I.length <;> by_cases hj : j < I.length
    · rw [hin i _ (List.getElem?_eq_getElem hi), hin j _ (List.getElem?_eq_getElem hj)] at e
      exact (List.getElem_inj hI).1 e
    · rw [hin i _ (List.getElem?_eq_getElem hi), hout j (by omega)] at e
      have := hIlt _ (List.getElem_mem hi); omega
    · rw [hin j _ (List.getElem?_eq_getElem hj), hout i (by omega)] at e
      have := hIlt _ (List.getElem_mem hj); omega
    · rw [hout i (by omega), hout j (by omega)] at e; omega
  -- what block j of the few is among the many
  have hblk : ∀ j b0, H0[j]? = some (some b0) → ∃ b, H[ρ j]? = some (some b) ∧ RenK ρ b0 b := fun j b0 hb0 => by
    have hj : j < I.length := by rw [← hI0]; exact (List.getElem?_eq_some_iff.1 hb0).1
    have h1 := pat j _ (List.getElem?_eq_getElem hj)
    rw [← hin j _ (List.getElem?_eq_getElem hj)] at h1
    have hjB : j < Bs.length := by omega
    have h2 := rat j _ _ hb0 (List.getElem?_eq_getElem hjB)
    rw [List.getElem?_eq_getElem hjB] at h1
    cases hB : Bs[j] with
    | none => rw [hB] at h2; cases h2
    | some b => rw [hB] at h1 h2; cases h2 with | blk h => exact ⟨b, h1, h⟩
  have hokV : ∀ j v, okV H (ρ j) v → okV H0 j v := fun j v hv => by
    have hlt := hv.lt
    have hj : j < I.length := by
      by_cases hj : j < I.length
      · exact hj
      · rw [hout j (by omega)] at hlt; omega
    have h1 := pat j _ (List.getElem?_eq_getElem hj)
    rw [← hin j _ (List.getElem?_eq_getElem hj)] at h1
    have hjB : j < Bs.length := by omega
    have hj0 : j < H0.length := by omega
    have h2 := rat j _ _ (List.getElem?_eq_getElem hj0) (List.getElem?_eq_getElem hjB)
    rw [List.getElem?_eq_getElem hjB] at h1
    unfold okV at hv ⊢
    rw [h1] at hv
    rw [List.getElem?_eq_getElem hj0]
    generalize H0[j] = x at *
    generalize Bs[j] = y at *
    cases h2 with
    | nil => trivial
    | blk h => simp only at hv ⊢; rw [h.ver]; exact hv
  let β1 : Nat → Nat → BT := fun j v => β (ρ j) v
  have hβ1 : ∀ j v, β1 j v = β (ρ j) v := fun _ _ => rfl
  have hgive : ∀ k, gives β1 H0 k → gives β H k := fun k ⟨j, b0, hb0, hr0, e⟩ => by
    obtain ⟨b, hb, hk⟩ := hblk j b0 hb0
    refine ⟨ρ j, b, hb, ?_, ?_⟩
    · rw [← hk.ver]; exact hr0
    · rw [← hk.ver]; exact e
  have hs : WS (given K β1 H0 w) K β1 H0 w := by
    refine ⟨hw.holds, fun j b0 hb0 => ?_, fun j b0 hb0 c hc => ?_, fun i j b b' hb hb' hri hrj he => ?_, fun j b0 hb0 hr0 => ?_, fun j b0 hb0 hr0 => .inr ⟨j, b0, hb0, hr0, rfl⟩, Nat.le_refl _, Bel.start _, Agr.refl _ _, HLe.refl _, Mem.le.refl _⟩
    · obtain ⟨b, hb, hk⟩ := hblk j b0 hb0
      have := hw.blk _ b hb
      rw [hβ1, hk.ver]
      exact hk.unblk hβ1 this
    · obtain ⟨b, hb, hk⟩ := hblk j b0 hb0
      obtain ⟨n, hn⟩ := List.getElem?_of_mem hc
      have hlt : n < b.cs.length := by rw [← hk.len]; exact (List.getElem?_eq_some_iff.1 hn).1
      exact OkD.unren hokV (hk.cs n c _ hn (List.getElem?_eq_getElem hlt)) (hw.ok _ b hb _ (List.getElem_mem hlt))
    · obtain ⟨c, hc, hk⟩ := hblk i b hb
      obtain ⟨c', hc', hk'⟩ := hblk j b' hb'
      rw [hβ1, hk.ver] at hri he
      rw [hβ1, hk'.ver] at hrj
      rw [hβ1, hk'.ver] at he
      exact hinj _ _ (hw.inj _ _ c c' hc hc' hri hrj he)
    · obtain ⟨b, hb, hk⟩ := hblk j b0 hb0
      rw [hβ1, hk.ver] at hr0 ⊢
      exact hw.apart _ b hb hr0
  refine hT (h β1 hβ1 hs (by omega) (fun j v d hv' hd => ?_) (fun d hd => ?_)) fun e w' ⟨v, d0, K', β', H0', hX, hs', hdr, hok, hout'⟩ => ?_
  · have hj : j < ds.length := by rw [← dl]; exact (List.getElem?_eq_some_iff.1 hd).1
    exact (hv j v _ hv' (List.getElem?_eq_getElem hj)).unren hβ1 (dat j d _ hd (List.getElem?_eq_getElem hj))
  · obtain ⟨j, hj⟩ := List.getElem?_of_mem hd
    have hlt : j < ds.length := by rw [← dl]; exact (List.getElem?_eq_some_iff.1 hj).1
    exact OkD.unren hokV (dat j d _ hj (List.getElem?_eq_getElem hlt)) (ho _ (List.getElem_mem hlt))
  · have hq : ∃ o0, Q o0 H0' ∧ ((e = .returned v ∧ o0 = .ret d0) ∨ (e = .panicked [{ v, recovered := false }] ∧ o0 = .pan d0)) := by
      rcases hout' with ⟨h1, h2⟩ | ⟨h1, h2⟩
      · exact ⟨_, h2, .inl ⟨h1, rfl⟩⟩
      · exact ⟨_, h2, .inr ⟨h1, rfl⟩⟩
    obtain ⟨o0, hQ0, hends⟩ := hq
    obtain ⟨o, Bs', News, hBl, hr', hoR, hQ'⟩ := hQ o0 H0' hQ0
    obtain ⟨rl', rat'⟩ := hr'.at
    rw [List.length_append, hBl] at rl'
    let β2 : Nat → Nat → BT := fun i v => match I.idxOf? i with
      | some j => β' j v
      | none => if i < H.length then β i v else β' (I.length + (i - H.length)) v
    have hidx : ∀ j i, I[j]? = some i → I.idxOf? i = some j := fun j i hj => by
      have hjl := (List.getElem?_eq_some_iff.1 hj).1
      have he := (List.getElem?_eq_some_iff.1 hj).2
      rw [List.idxOf?_eq_some_iff]
      refine ⟨hjl, he, fun k hk => ?_⟩
      intro e2
      have := (List.getElem_inj (h₀ := by omega) (h₁ := hjl) hI).1 (e2.trans he.symm)
      omega
    have hidn : ∀ i, i ∉ I → I.idxOf? i = none := fun i hi => by rw [List.idxOf?_eq_none_iff]; exact hi
    have hβ2 : ∀ j v, j < H0'.length → β2 (ρ j) v = β' j v := fun j v hj => by
      by_cases hjI : j < I.length
      · have := hin j _ (List.getElem?_eq_getElem hjI)
        rw [this]
        show (match I.idxOf? _ with | some j => _ | none => _) = _
        rw [hidx j _ (List.getElem?_eq_getElem hjI)]
      · rw [hout j (by omega)]
        show (match I.idxOf? _ with | some j => _ | none => _) = _
        rw [hidn _ (fun h => by have := hIlt _ h; omega)]
        simp only
        rw [if_neg (by omega), show I.length + (H.length + (j - I.length) - H.length) = j by omega]
    have hβ2r : ∀ i v, i ∉ I → i < H.length → β2 i v = β i v := fun i v hi hlt => by
      show (match I.idxOf? _ with | some j => _ | none => _) = _
      rw [hidn i hi]
      simp only
      rw [if_pos hlt]
    generalize hβ2e : β2 = β2' at hβ2 hβ2r
    have hH' : ∀ j, j < H0'.length → (putI H I Bs' ++ News)[ρ j]? = (Bs' ++ News)[j]? := fun j hj => by
      by_cases hjI : j < I.length
      · have h1 := hin j _ (List.getElem?_eq_getElem hjI)
        rw [h1, List.getElem?_append_left (by rw [putI_len]; exact hIlt _ (List.getElem_mem hjI)), List.getElem?_append_left (by omega), putI_in I Bs' H j _ hI hBl.symm hIlt (List.getElem?_eq_getElem hjI)]
      · rw [hout j (by omega), List.getElem?_append_right (by rw [putI_len]; omega), List.getElem?_append_right (by omega), putI_len]
        congr 1
        omega
    have hHr : ∀ i, i ∉ I → i < H.length → (putI H I Bs' ++ News)[i]? = H[i]? := fun i hi hlt => by
      rw [List.getElem?_append_left (by rw [putI_len]; exact hlt), putI_out I Bs' H i hi]
    -- every block of the many behind the call
    have hcase : ∀ i b, (putI H I Bs' ++ News)[i]? = some (some b) → (∃ j b0, i = ρ j ∧ H0'[j]? = some (some b0) ∧ RenK ρ b0 b) ∨ (i ∉ I ∧ i < H.length ∧ H[i]? = some (some b)) := fun i b hb => by
      have hlen : i < H.length + News.length := by have := (List.getElem?_eq_some_iff.1 hb).1; rw [List.length_append, putI_len] at this; exact this
      have few : ∀ j, i = ρ j → j < H0'.length → (∃ j b0, i = ρ j ∧ H0'[j]? = some (some b0) ∧ RenK ρ b0 b) := fun j e hj => by
        rw [e, hH' j hj] at hb
        have h2 := rat' j _ _ (List.getElem?_eq_getElem hj) hb
        cases hx : H0'[j] with
        | none => rw [hx] at h2; cases h2
        | some b0 => rw [hx] at h2; cases h2 with | blk h => exact ⟨j, b0, e, by rw [List.getElem?_eq_getElem hj, hx], h⟩
      by_cases hiI : i ∈ I
      · obtain ⟨j, hj⟩ := List.getElem?_of_mem hiI
        have hjl := (List.getElem?_eq_some_iff.1 hj).1
        exact .inl (few j (hin j i hj).symm (by omega))
      · by_cases hlt : i < H.length
        · exact .inr ⟨hiI, hlt, by rw [← hHr i hiI hlt]; exact hb⟩
        · exact .inl (few (I.length + (i - H.length)) (by rw [hout _ (by omega)]; omega) (by omega))
    have hokV' : ∀ j v, okV H0' j v → okV (putI H I Bs' ++ News) (ρ j) v := fun j v hv => by
      have hj := hv.lt
      have hjB : j < (Bs' ++ News).length := by rw [List.length_append, hBl]; omega
      have h2 := rat' j _ _ (List.getElem?_eq_getElem hj) (List.getElem?_eq_getElem hjB)
      unfold okV at hv ⊢
      rw [hH' j hj, List.getElem?_eq_getElem hjB]
      rw [List.getElem?_eq_getElem hj] at hv
      generalize H0'[j] = x at *
      generalize (Bs' ++ News)[j] = y at *
      cases h2 with
      | nil => trivial
      | blk h => simp only at hv ⊢; rw [← h.ver]; exact hv
    have hagr : Agr H β β2' := fun i v hv => by
      have hlt := hv.lt
      by_cases hiI : i ∈ I
      · obtain ⟨j, hj⟩ := List.getElem?_of_mem hiI
        have hjl := (List.getElem?_eq_some_iff.1 hj).1
        have e := hin j i hj
        rw [← e] at hv ⊢
        have h0 := hokV j v hv
        rw [hβ2 j v (by omega), hX.ag j v h0]
      · exact hβ2r i v hiI hlt
    have hle : HLe H (putI H I Bs' ++ News) := fun i v hv => by
      have hlt := hv.lt
      by_cases hiI : i ∈ I
      · obtain ⟨j, hj⟩ := List.getElem?_of_mem hiI
        have e := hin j i hj
        rw [← e] at hv ⊢
        exact hokV' j v (hX.le j v (hokV j v hv))
      · unfold okV at hv ⊢
        rw [hHr i hiI hlt]; exact hv
    have hnotg : ∀ i b, i ∉ I → H[i]? = some (some b) → (β i b.ver).real = true → ¬ gives β1 H0 (β i b.ver).blk := fun i b hiI hb hrl ⟨j, b0, hb0, hr0, e⟩ => by
      obtain ⟨c, hc, hk⟩ := hblk j b0 hb0
      rw [hβ1, hk.ver] at hr0 e
      have := hw.inj _ _ c b hc hb hr0 hrl e
      have hj : j < I.length := by rw [← hI0]; exact (List.getElem?_eq_some_iff.1 hb0).1
      rw [hin j _ (List.getElem?_eq_getElem hj)] at this
      exact hiI (by rw [← this]; exact List.getElem_mem hj)
    have hwsN : WS (given K β H w) K' β2' (putI H I Bs' ++ News) w' := by
      refine ⟨hs'.holds, fun i b hb => ?_, fun i b hb c hc => ?_, fun i j b b' hb hb' hri hrj he => ?_, fun i b hb hr0 => ?_, fun i b hb hr0 => ?_, hs'.size, ⟨hs'.below.os, hs'.below.tape, hs'.below.output, hs'.below.size, fun k hk hg => hs'.below.block k hk fun h => hg (hgive k h)⟩, hagr, hle, hX.kx.le⟩
      · rcases hcase i b hb with ⟨j, b0, rfl, hb0, hk⟩ | ⟨hiI, hlt, hb1⟩
        · have hj := (List.getElem?_eq_some_iff.1 hb0).1
          rw [hβ2 j _ hj, ← hk.ver]
          exact hk.blk hβ2 (hs'.ok j b0 hb0) (hs'.blk j b0 hb0)
        · rw [hβ2r i _ hiI hlt]
          refine ((hw.blk i b hb1).mono hX.kx.le (hw.ok i b hb1) hagr).other fun hrl => ?_
          exact hs'.below.block _ (hw.lt hb1 hrl) (hnotg i b hiI hb1 hrl)
      · rcases hcase i b hb with ⟨j, b0, rfl, hb0, hk⟩ | ⟨hiI, hlt, hb1⟩
        · obtain ⟨n, hn⟩ := List.getElem?_of_mem hc
          have hlt : n < b0.cs.length := by rw [hk.len]; exact (List.getElem?_eq_some_iff.1 hn).1
          exact OkD.ren hokV' (hk.cs n _ c (List.getElem?_eq_getElem hlt) hn) (hs'.ok j b0 hb0 _ (List.getElem_mem hlt))
        · exact (hw.ok i b hb1 c hc).mono hle
      · have mixed : ∀ {i j : Nat} {b0 b : Blk}, H0'[i]? = some (some b0) → (β' i b0.ver).real = true → j ∉ I → H[j]? = some (some b) → (β j b.ver).real = true → (β' i b0.ver).blk ≠ (β j b.ver).blk := fun {i j b0 b} hb0 hr0 hjI hb hrl e => by
          rcases hs'.base i b0 hb0 hr0 with h1 | h1
          · have := hw.lt hb hrl
            have h1' : w.heap.size ≤ (β' i b0.ver).blk := h1
            omega
          · rw [e] at h1; exact hnotg j b hjI hb hrl h1
        rcases hcase i b hb with ⟨i', b0, rfl, hb0, hk⟩ | ⟨hiI, hlt, hb1⟩ <;> rcases hcase j b' hb' with ⟨j', b0', rfl, hb0', hk'⟩ | ⟨hjI, hlt', hb1'⟩
        · have hi := (List.getElem?_eq_some_iff.1 hb0).1
          have hj := (List.getElem?_eq_some_iff.1 hb0').1
          rw [hβ2 i' _ hi, ← hk.ver] at hri he
          rw [hβ2 j' _ hj, ← hk'.ver] at hrj he
          rw [hs'.inj i' j' b0 b0' hb0 hb0' hri hrj he]
        · have hi := (List.getElem?_eq_some_iff.1 hb0).1
          rw [hβ2 i' _ hi, ← hk.ver] at hri he
          rw [hβ2r j _ hjI hlt'] at hrj he
          exact absurd he (mixed hb0 hri hjI hb1' hrj)
        · have hj := (List.getElem?_eq_some_iff.1 hb0').1
          rw [hβ2 j' _ hj, ← hk'.ver] at hrj he
          rw [hβ2r i _ hiI hlt] at hri he
          exact absurd he.symm (mixed hb0' hrj hiI hb1 hri)
        · rw [hβ2r i _ hiI hlt] at hri he
          rw [hβ2r j _ hjI hlt'] at hrj he
          exact hw.inj i j b b' hb1 hb1' hri hrj he
      · rcases hcase i b hb with ⟨j, b0, rfl, hb0, hk⟩ | ⟨hiI, hlt, hb1⟩
        · have hj := (List.getElem?_eq_some_iff.1 hb0).1
          rw [hβ2 j _ hj, ← hk.ver] at hr0 ⊢
          exact hs'.apart j b0 hb0 hr0
        · rw [hβ2r i _ hiI hlt] at hr0 ⊢
          cases hK : K' (β i b.ver).blk with
          | none => rfl
          | some c =>
            rcases hX.kx.new _ _ hK with h1 | h1 | h1
            · rw [hw.apart i b hb1 hr0] at h1; cases h1
            · have := hw.lt hb1 hr0
              have h1' : w.heap.size ≤ (β i b.ver).blk := h1
              omega
            · exact absurd h1 (hnotg i b hiI hb1 hr0)
      · rcases hcase i b hb with ⟨j, b0, rfl, hb0, hk⟩ | ⟨hiI, hlt, hb1⟩
        · have hj := (List.getElem?_eq_some_iff.1 hb0).1
          rw [hβ2 j _ hj, ← hk.ver] at hr0 ⊢
          rcases hs'.base j b0 hb0 hr0 with h1 | h1
          · exact .inl h1
          · exact .inr (hgive _ h1)
        · rw [hβ2r i _ hiI hlt] at hr0 ⊢
          exact .inr ⟨i, b, hb1, hr0, rfl⟩
    have hXN : Ext (given K β H w) K β H K' β2' (putI H I Bs' ++ News) := ⟨hX.kx.mono fun k hk => hk.imp id (hgive k), hagr, hle⟩
    rcases hends with ⟨rfl, rfl⟩ | ⟨rfl, rfl⟩
    · cases hoR with
      | @ret c d hd => exact ⟨v, d, K', β2', _, hXN, hwsN, hdr.ren hβ2 hd hok, OkD.ren hokV' hd hok, .inl ⟨rfl, hQ'⟩⟩
    · cases hoR with
      | @pan c d hd => exact ⟨v, d, K', β2', _, hXN, hwsN, hdr.ren hβ2 hd hok, OkD.ren hokV' hd hok, .inr ⟨rfl, hQ'⟩⟩
theorem FunM.frame' {P : Program} {f : FuncId} {ds0 ds : List D} {H0 H : Heap} {Q Q' : DOut → Heap → Prop} (I : List Nat) (Bs : List (Option Blk)) (h : FunM P f ds0 H0 Q) (hI : I.Nodup) (hP : Picks H I Bs) (hr : All2 (RenB (rho I H.length)) H0 Bs) (hds : All2 (Ren (rho I H.length)) ds0 ds)
    (hQ : ∀ o0 H0', Q o0 H0' → ∃ o Bs' News, Bs'.length = I.length ∧ All2 (RenB (rho I H.length)) H0' (Bs' ++ News) ∧ ORen (rho I H.length) o0 o ∧ Q' o (putI H I Bs' ++ News)) : FunM P f ds H Q' :=
  fun K β w vs hw hl hv ho => frameAt (T := fun as_ w R => Calls P f as_ w R) (fun h hr => h.mono hr) I Bs (fun β1 _ => h K β1 w vs) hI hP hr hds hQ hw hl hv ho
/-- The same where one outcome is known. -/
theorem FunM.frame {P : Program} {f : FuncId} {ds0 ds : List D} {H0 H H0' H' : Heap} {d0 d : D} (I : List Nat) (Bs Bs' News : List (Option Blk)) (h : FunM P f ds0 H0 fun o H' => o = .ret d0 ∧ H' = H0') (hI : I.Nodup) (hP : Picks H I Bs) (hr : All2 (RenB (rho I H.length)) H0 Bs) (hds : All2 (Ren (rho I H.length)) ds0 ds)
    (hl : Bs'.length = I.length) (hr' : All2 (RenB (rho I H.length)) H0' (Bs' ++ News)) (hd : Ren (rho I H.length) d0 d) (hH : putI H I Bs' ++ News = H') : FunM P f ds H fun o H'' => o = .ret d ∧ H'' = H' :=
  h.frame' I Bs hI hP hr hds fun o0 H1 ⟨e1, e2⟩ => ⟨.ret d, Bs', News, hl, by rw [e2]; exact hr', by rw [e1]; exact .ret hd, rfl, hH⟩
end Go.DL
namespace Go.DL
open Go.RowKit

abbrev Bo (b : Bool) : D := .v (.bool b)
theorem gdT {G : Bool} {d : D} (h : G = true) : gd G d = d := by rw [h]; rfl
theorem gdS {G x : Bool} {d : D} (h : G = true) : gd (G && x) d = gd x d := by rw [h]; rfl
section
variable {P : Program} {C : Ctx} {N : Nat} {ops : Array Oper} {rest : List Oper} {o : Oper} {s : St} {F : DX → St → Prop}
/-- An operation behind a guard that nothing guards. -/
theorem RG.opg1 (b : Bool) (j : Nat) (want : Bool) (t : Nat) (d : D) (hg : o.guard = some (j, want)) (ht : (ops[j]?).bind (·.dst) = some t) (hlt : Nat.blt t N = true) (hb : s.env t = .v (.bool b)) (hf : fits N o = true)
    (h : (b == want) = true → OpD P C o s.env s.H d s.H) (hr : RG P C N ops rest ⟨updO s.env o.dst (gd (b == want) d), s.H⟩ F) : RG P C N ops (o :: rest) s F :=
  RG.opg b j want t d hg ht hlt hb hf (fun e => h (by rw [e]; simp)) hr
theorem gd_yield {K : Mem} {β : Nat → Nat → BT} {a : Act} {t j : Nat} {G p want : Bool} (hg : o.guard = some (j, want)) (ht : (ops[j]?).bind (·.dst) = some t) (hlt : t < a.tmps.size) (hd : DR K β true (a.tmps.getD t undef) (gd G (.v (.bool p)))) : Region.wanted o (yielded ops a.tmps) = (G && (p == want)) := by
  cases G with
  | true =>
    have hy : yielded ops a.tmps j = some p := yielded_of ht hlt hd
    simp only [Region.wanted, hg, hy]
    cases p <;> cases want <;> rfl
  | false =>
    have e : a.tmps.getD t undef = undef := hd.v_inv
    have hy : yielded ops a.tmps j = none := by
      unfold yielded
      rw [ht]
      have e' : a.tmps[t]? = some undef := by
        rw [Array.getElem?_eq_getElem hlt]
        rw [Array.getD_eq_getD_getElem?, Array.getElem?_eq_getElem hlt] at e
        simpa using e
      simp [e', undef]
    simp only [Region.wanted, hg, hy]
    cases want <;> rfl
/-- An operation behind a guard that is itself behind one. -/
theorem RG.opg2 (G p : Bool) (j : Nat) (want : Bool) (t : Nat) (d : D) (hg : o.guard = some (j, want)) (ht : (ops[j]?).bind (·.dst) = some t) (hlt : Nat.blt t N = true) (hb : s.env t = gd G (.v (.bool p))) (hf : fits N o = true)
    (h : (G && (p == want)) = true → OpD P C o s.env s.H d s.H) (hr : RG P C N ops rest ⟨updO s.env o.dst (gd (G && (p == want)) d), s.H⟩ F) : RG P C N ops (o :: rest) s F := by
  intro K β a w Q hs hq
  refine listW_step fun Kc hK => ?_
  rw [gd_yield hg ht (by rw [hs.size]; simpa [Nat.blt_eq] using hlt) (hb ▸ hs.rd t)]
  cases hbw : (G && (p == want)) with
  | true =>
    simp only [if_true]
    rw [hbw] at hr
    refine (h hbw).go K β a w Kc Q hs.ws (fun x _ => hs.ev x) (fun x _ => hs.evok x) fun K' β' v w' hx hβ hw hv ho => hK _ _ ?_
    exact hr K' β' _ w' Q (hs.put hx.le hβ hw (HLe.refl _) hv ho hf) fun e a' w'' hA => hq _ _ _ (hA.mono ⟨hx, hβ, HLe.refl _⟩ fun _ _ h => h)
  | false =>
    simp only [Bool.false_eq_true, if_false]
    rw [hbw] at hr
    exact hK _ _ (hr K β _ w Q (hs.put (Mem.le.refl K) (Agr.refl _ _) hs.ws (HLe.refl _) (.v _ _) (.v _) hf) fun e a' w'' hA => hq _ _ _ hA)
/-- A call of which one outcome is known. -/
theorem RG.opM (d : D) (H' : Heap) (hg : o.guard = none) (hf : fits N o = true) (h : OpX P C o s.env s.H fun x H'' => x = .ret d ∧ H'' = H') (hr : RG P C N ops rest ⟨updO s.env o.dst d, H'⟩ F) : RG P C N ops (o :: rest) s F :=
  RG.opX _ hg hf h (by rintro _ _ ⟨⟨⟩, rfl⟩; exact hr) (by rintro _ _ ⟨h, _⟩; cases h)
end
section
variable {P : Program} {C : Ctx} {N : Nat} {ops : Array Oper} {Hs : Heap → Prop} {i : Nat} {o : Oper} {rest : List Oper} {env : Nat → D} {H H1 : Heap} {F : List (D × Bool × Heap) → (Nat → D) → Heap → Prop} {d : D}
theorem Stp.opg2 (G p : Bool) (j : Nat) (want : Bool) (t : Nat) (ho : ops[i]? = some o) (hg : o.guard = some (j, want)) (ht : (ops[j]?).bind (·.dst) = some t) (hlt : Nat.blt t N = true) (hb : env t = gd G (.v (.bool p)))
    (h : (G && (p == want)) = true → OpD P C o env H d H) : Stp P C N ops i env H (gd (G && (p == want)) d) H := by
  refine ⟨HLe.refl _, fun o' ho' K β a w Kc Q hw hN hx hn => ?_⟩
  rw [ho] at ho'; cases ho'
  obtain ⟨h1, h2⟩ := looks_op hx
  have htm : t ∈ o.looksAt ops := List.mem_append_right _ (by simp [hg, ht])
  unfold wpOpIn
  simp only [ho]
  rw [gd_yield hg ht (by rw [hN]; simpa [Nat.blt_eq] using hlt) (hb ▸ (hx t htm).1)]
  cases hbw : (G && (p == want)) with
  | true =>
    simp only [if_true]
    rw [hbw] at hn
    exact ((h hbw).go K β a w Kc Q hw h1 h2 hn)
  | false =>
    simp only [Bool.false_eq_true, if_false]
    rw [hbw] at hn
    exact ⟨fun _ _ => trivial, hn K β undef w (KX.refl _ _) (Agr.refl _ _) hw (.v _ _) (.v _)⟩
theorem PG.opg1 (d : D) (b : Bool) (j : Nat) (want : Bool) (t : Nat) (ho : ops[i]? = some o) (hg : o.guard = some (j, want)) (ht : (ops[j]?).bind (·.dst) = some t) (hlt : Nat.blt t N = true) (hb : env t = .v (.bool b)) (hf : fits N o = true)
    (h : (b == want) = true → ∀ H, Hs H → OpD P C o env H d H) (r : PG P C N ops Hs (i + 1) rest (updO env o.dst (gd (b == want) d)) H fun l e h => F ((gd (b == want) d, false, H) :: l) e h) : PG P C N ops Hs i (o :: rest) env H F :=
  PG.opg d b j want t ho hg ht hlt hb hf (fun e => h (by rw [e]; simp)) r
theorem PG.opg2 (d : D) (G p : Bool) (j : Nat) (want : Bool) (t : Nat) (ho : ops[i]? = some o) (hg : o.guard = some (j, want)) (ht : (ops[j]?).bind (·.dst) = some t) (hlt : Nat.blt t N = true) (hb : env t = gd G (.v (.bool p))) (hf : fits N o = true)
    (h : (G && (p == want)) = true → ∀ H, Hs H → OpD P C o env H d H) (r : PG P C N ops Hs (i + 1) rest (updO env o.dst (gd (G && (p == want)) d)) H fun l e h => F ((gd (G && (p == want)) d, false, H) :: l) e h) : PG P C N ops Hs i (o :: rest) env H F :=
  let ⟨_, e', H', pl, f⟩ := r; ⟨_, e', H', .pure _ hf (fun H hH => .opg2 G p j want t ho hg ht hlt hb fun e => h e H hH) pl, f⟩
end

/-! ### Loops whose blocks are those at the entry, but for some -/
def updH (H : Heap) : List (Nat × Option Blk) → Heap
  | [] => H
  | (k, b) :: l => (updH H l).set k b
theorem WC.loopU {P : Program} {C : Ctx} {N : Nat} {s : St} {Q : DX → St → Prop} {c : Code} {G : Type} (W : List Nat) (A : G → List (Nat × D)) (U : G → List (Nat × Option Blk)) (I : G → Prop) (m : G → Nat) (g0 : G) (hI : I g0) (h0 : Head s.H s.env W (A g0) (updH s.H (U g0)) s)
    (round : ∀ g, I g → WC P C N c ⟨updL (forget W s.env) (A g), updH s.H (U g)⟩ (thenQ (fun s' => ∃ g', I g' ∧ m g' < m g ∧ Head s.H s.env W (A g') (updH s.H (U g')) s') Q)) : WC P C N (.loop c) s Q :=
  WC.loop W A (fun g => updH s.H (U g)) I m g0 hI h0 round
/-! ### What is pure -/
theorem pu_nil : ∀ c ∈ ([] : List D), Pure' c := by simp
theorem pu_cons {d : D} {l : List D} (h : Pure' d) (hl : ∀ c ∈ l, Pure' c) : ∀ c ∈ d :: l, Pure' c := fun c hc => by
  rcases List.mem_cons.1 hc with rfl | hc
  · exact h
  · exact hl c hc
theorem pu_app {l m : List D} (hl : ∀ c ∈ l, Pure' c) (hm : ∀ c ∈ m, Pure' c) : ∀ c ∈ l ++ m, Pure' c := fun c hc => by
  rcases List.mem_append.1 hc with hc | hc
  · exact hl c hc
  · exact hm c hc
theorem pu_map {α : Type} {g : α → D} (h : ∀ a, Pure' (g a)) (l : List α) : ∀ c ∈ l.map g, Pure' c := fun c hc => by
  obtain ⟨b, _, rfl⟩ := List.mem_map.1 hc
  exact h b
theorem pu_flatMap {α : Type} {f : α → List D} (h : ∀ a, ∀ c ∈ f a, Pure' c) (l : List α) : ∀ c ∈ l.flatMap f, Pure' c := fun c hc => by
  obtain ⟨b, _, hb⟩ := List.mem_flatMap.1 hc
  exact h b c hb
theorem pu_vs {cs : List D} (h : cs.all isV = true) : ∀ d ∈ cs, Pure' d := allV h
theorem one_nil : ∀ c ∈ ([] : List D), oneD c = true := by simp
theorem one_cons {d : D} {l : List D} (h : oneD d = true) (hl : ∀ c ∈ l, oneD c = true) : ∀ c ∈ d :: l, oneD c = true := fun c hc => by
  rcases List.mem_cons.1 hc with rfl | hc
  · exact h
  · exact hl c hc
theorem one_map {α : Type} {g : α → D} (h : ∀ a, oneD (g a) = true) (l : List α) : ∀ c ∈ l.map g, oneD c = true := fun c hc => by
  obtain ⟨b, _, rfl⟩ := List.mem_map.1 hc
  exact h b
theorem one_flatMap {α : Type} {f : α → List D} (h : ∀ a, ∀ c ∈ f a, oneD c = true) (l : List α) : ∀ c ∈ l.flatMap f, oneD c = true := fun c hc => by
  obtain ⟨b, _, hb⟩ := List.mem_flatMap.1 hc
  exact h b c hb
theorem okp {H : Heap} {l : List D} (h : ∀ c ∈ l, Pure' c) : ∀ c ∈ l, OkD H c := fun c hc => (h c hc).ok H
theorem Frz.pure' {H : Heap} {d : D} (h : Pure' d) : Frz H d d := by
  induction h with
  | any => exact .any
  | v x => exact .v x
  | rd n cs => exact .rd n cs
  | adr cs => exact .adr cs
  | agg cs _ ih => exact .agg cs cs rfl fun j c d hc hd => by rw [hc] at hd; cases hd; exact ih c (List.mem_of_getElem? hc)
  | tup cs _ ih => exact .tup cs cs rfl fun j c d hc hd => by rw [hc] at hd; cases hd; exact ih c (List.mem_of_getElem? hc)
  | fn f cs _ ih => exact .fn f cs cs rfl fun j c d hc hd => by rw [hc] at hd; cases hd; exact ih c (List.mem_of_getElem? hc)
  | iface t d _ ih => exact .iface t d d ih
  | mp ks cs => exact .mp ks cs
/-- A row of the call's own whose cells are pure. -/
theorem Frz.row {H : Heap} {id ver n sz : Nat} {b : Blk} (hb : H[id]? = some (some b)) (hv : b.ver = ver) (hp : ∀ c ∈ b.cs, Pure' c) : Frz H (.own id ver 0 n sz) (.rd n b.cs) := by
  subst hv
  refine .own id 0 n sz b b.cs hb (by omega) fun j c d hc hd => ?_
  rw [Nat.zero_add, hd] at hc
  have e : d = c := by simpa using hc
  subst e
  exact .pure' (hp d (List.mem_of_getElem? hd))
theorem Frz.tb {H : Heap} {id n sz : Nat} {e : TypeId} {cs : List D} (hb : H[id]? = some (tb e n cs)) (hp : ∀ c ∈ cs, Pure' c) : Frz H (ow id n sz) (.rd n cs) := Frz.row hb rfl hp
/-- Read through nil: where a slice is wanted. -/
theorem Frz.nilr {H : Heap} : Frz H (.v (.slice none 0 0)) (.rd 0 []) := .nilv
end Go.DL
namespace Go.DL
open Go.RowKit

/-- A value: its kind, its number, its text. -/
structure Val where
  k : UInt8
  i : Int
  t : List UInt8
  deriving DecidableEq, Inhabited
def vc (v : Val) : List D := [B8 v.k, I64 v.i, S v.t]
theorem vc_len (v : Val) : (vc v).length = 3 := rfl
abbrev rdI (l : List Int) : D := .rd l.length (l.map I64)
theorem zeros_len (zv : Value) (n sz : Nat) : (zeros zv n sz).length = n := by simp [zeros]
theorem Frz1.rowE {id ver n m sz : Nat} {b : Blk} {ds : List D} (hv : b.ver = ver) (hn : n = m) (h : b.cs = ds) : Frz1 id b (.own id ver 0 n sz) (.rd m ds) := by
  subst hv hn h
  exact .own 0 n sz _ (by simp)
theorem ow_eq {i a b s : Nat} (h : a = b) : ow i a s = ow i b s := by rw [h]
theorem tb_eq {e : TypeId} {n n' : Nat} {cs cs' : List D} (hn : n = n') (hc : cs = cs') : tb e n cs = tb e n' cs' := by rw [hn, hc]
section
variable {P : Program} {C : Ctx} {env : Nat → D} {H H' : Heap} {dst : Option Nat} {ty t t' e : TypeId} {pos : String} {after : Array Edge} {gu : Option (Nat × Bool)} {X Y Z : Operand} {td : TypeDesc}
/-- A slice written out, that nobody changes. -/
theorem o_litP {zv : Value} {sz len bytes : Nat} {ps : List (Nat × Operand)} {cs : List D} (ht : P.underlying t = some (.slice e)) (hi : (P.info? e).map (fun i => (i.zero, i.size, i.bytes)) = some (some zv, sz, bytes)) (hz : zv.cells.size = sz) (hlen : Nat.ble (len * sz) 16777216 = true)
    (hp : litOK env sz (len * sz) ps = true) (hcs : ps.foldl (fun c p => spl c (p.1 * sz) (cellsD (ev env p.2))) ((zeros zv (len * sz) sz).map D.v) = cs) (hpure : ∀ d ∈ cs, Pure' d) : OpD P C ⟨dst, .buildSlice t len ps.toArray, ty, pos, after, gu⟩ env H (.rd len cs) H :=
  o_lit_rd ht hi hz (Nat.le_of_ble_eq_true hlen) (litOK.at hp) hcs hpure

/-- The place of an element that is there where the operation is done: told for all numbers. -/
theorem o_ixn_LZ {α : Type} (z : α) {l : List α} {f : α → List D} {sz : Nat} {k : IntKind} {i : Int} (n : Nat) (hf : ∀ a, (f a).length = sz) (hp : Nat.blt 0 sz = true) (hx : ev env X = .rd l.length (l.flatMap f)) (hy : ev env Y = .v (.int k i)) (ht : P.underlying t = some (.slice e)) (hi : (P.info? e).map (·.size) = some sz) (hn : i = n) (h : n < l.length) :
    OpD P C ⟨dst, .indexAddr t X Y, ty, pos, after, gu⟩ env H (.adr (f (l.getD n z) ++ (l.drop (n + 1)).flatMap f)) H :=
  (o_ixn_L n hf hp hx hy ht hi hn h).cast (by simp [List.getD, h])
theorem o_ixn_MZ {α : Type} (z : α) {l : List α} {g : α → D} {k : IntKind} {i : Int} (n : Nat) (hx : ev env X = .rd l.length (l.map g)) (hy : ev env Y = .v (.int k i)) (ht : P.underlying t = some (.slice e)) (hi : (P.info? e).map (·.size) = some 1) (hn : i = n) (h : n < l.length) :
    OpD P C ⟨dst, .indexAddr t X Y, ty, pos, after, gu⟩ env H (.adr (g (l.getD n z) :: (l.drop (n + 1)).map g)) H :=
  (o_ixn_M n hx hy ht hi hn h).cast (by simp [List.getD, h])
/-! ### Cuts of rows that stay -/
theorem o_dropL {α : Type} {l : List α} {f : α → List D} {sz : Nat} {k : IntKind} {i : Int} (n : Nat) (hf : ∀ a, (f a).length = sz) {y : Operand} (hx : ev env X = .rd l.length (l.flatMap f)) (hy : ev env y = .v (.int k i)) (ht : P.underlying t = some (.slice e)) (hi : (P.info? e).map (·.size) = some sz) (hn : i = n) (h : n ≤ l.length) :
    OpD P C ⟨dst, .slice t X (some y) none none, ty, pos, after, gu⟩ env H (.rd (l.drop n).length ((l.drop n).flatMap f)) H := by
  subst hn
  have := o_cut_rd (P := P) (C := C) (H := H) (dst := dst) (ty := ty) (pos := pos) (after := after) (gu := gu) (lo := n) (hi := l.length) (cs' := (l.drop n).flatMap f) (yl := some y) (yh := none) hx ⟨k, hy⟩ rfl ht hi h (Nat.le_refl _) (by rw [flatMap_drop hf, List.take_of_length_le (by rw [flatMap_len hf, List.length_drop]; exact Nat.le_refl _)])
  exact this.cast (by congr 1; simp only [List.length_take, List.length_drop]; try omega)
/-! ### Parts of structs; interfaces; negation -/
end
end Go.DL
namespace Go.DL
open Go.RowKit

theorem LS : (∀ l : List UInt8, (bytesD l).length = l.length) ∧ (∀ (zv : Value) (n sz : Nat), (zeros zv n sz).length = n) ∧ (∀ l : List Val, (l.flatMap vc).length = l.length * 3) ∧ (∀ {α : Type} (a b : List α), (a ++ b).length = a.length + b.length) ∧ (∀ {α : Type} (n : Nat) (l : List α), (l.take n).length = min n l.length)
    ∧ (∀ {α : Type} (n : Nat) (l : List α), (l.drop n).length = l.length - n) ∧ (∀ {α β : Type} (f : α → β) (l : List α), (l.map f).length = l.length) ∧ (∀ {α : Type}, ([] : List α).length = 0) ∧ (∀ {α : Type} (a : α) (l : List α), (a :: l).length = l.length + 1) ∧ (∀ {α : Type} (n : Nat) (a : α), (List.replicate n a).length = n)
    ∧ (∀ {α : Type} (l : List α), l.reverse.length = l.length) ∧ (∀ {α : Type} (l : List α) (n : Nat) (a : α), (l.set n a).length = l.length) ∧ (∀ n : Nat, (List.range n).length = n) ∧ (∀ l : List UInt8, (strB l).size = l.length) :=
  ⟨bytesD_len, zeros_len, flatMap_len vc_len, fun _ _ => List.length_append, fun _ _ => List.length_take, fun _ _ => List.length_drop, fun _ _ => List.length_map _, List.length_nil, fun _ _ => List.length_cons, fun _ _ => List.length_replicate, fun _ => List.length_reverse, fun _ _ _ => List.length_set, fun _ => List.length_range, strB_size⟩
theorem CN : (∀ (p : Prop) [Decidable p], (decide p = true) = p) ∧ (∀ (p : Prop) [Decidable p], decide p = false ↔ ¬p) ∧ (∀ a b : Bool, ((a && b) = true) = (a = true ∧ b = true)) ∧ (∀ a b : Bool, ((a || b) = true) = (a = true ∨ b = true)) ∧ (∀ b : Bool, ((!b) = true) = (b = false)) ∧ (∀ b : Bool, ((!b) = false) = (b = true))
    ∧ (∀ a b : Bool, ((a && b) = false) = (a = false ∨ b = false)) ∧ (∀ a b : Bool, ((a || b) = false) = (a = false ∧ b = false)) ∧ (∀ {α : Type} [BEq α] [LawfulBEq α] (a b : α), (a == b) = true ↔ a = b) ∧ (∀ {α : Type} [BEq α] [LawfulBEq α] (a b : α), (a != b) = true ↔ a ≠ b) ∧ (∀ {α : Type} [BEq α] [LawfulBEq α] (a b : α), (a == b) = false ↔ a ≠ b)
    ∧ (∀ {α : Type} [BEq α] [LawfulBEq α] (a b : α), (a != b) = false ↔ a = b) ∧ (∀ a b : Int, ¬a < b ↔ b ≤ a) ∧ (∀ a b : Int, ¬a ≤ b ↔ b < a) ∧ (∀ {α : Type} (a b : α), (a ≠ b) = ¬(a = b)) ∧ (∀ (p : Prop) [Decidable p], ¬¬p ↔ p) :=
  ⟨fun _ _ => decide_eq_true_eq, fun _ _ => decide_eq_false_iff_not, fun _ _ => Bool.and_eq_true _ _, fun _ _ => Bool.or_eq_true _ _, fun b => by cases b <;> simp, fun b => by cases b <;> simp, fun a b => by cases a <;> cases b <;> simp, fun a b => by cases a <;> cases b <;> simp, fun _ _ => beq_iff_eq, fun _ _ => bne_iff_ne, fun _ _ => beq_eq_false_iff_ne, fun _ _ => bne_eq_false_iff_eq, fun _ _ => Int.not_lt, fun _ _ => Int.not_le, fun _ _ => ne_eq _ _, fun _ _ => Decidable.not_not⟩

def pur0 : D → Bool
  | .any | .v _ | .rd _ _ | .adr _ | .mp _ _ => true
  | .agg cs => cs.all isV
  | _ => false
theorem pur0_of {d : D} (h : pur0 d = true) : Pure' d := by
  cases d <;> first | (cases h; done) | skip
  all_goals first | exact .any | exact .v _ | exact .rd _ _ | exact .adr _ | exact .mp _ _ | exact .agg _ (pu_vs h)
def pur1 : D → Bool
  | .agg cs | .tup cs | .fn _ cs => cs.all pur0
  | .iface _ d => pur0 d
  | d => pur0 d
theorem pur1_all {cs : List D} (h : cs.all pur0 = true) : ∀ c ∈ cs, Pure' c := fun c hc => pur0_of (List.all_eq_true.1 h c hc)
theorem pu_of {d : D} (h : pur1 d = true) : Pure' d := by
  cases d with
  | agg cs => exact .agg _ (pur1_all h)
  | tup cs => exact .tup _ (pur1_all h)
  | fn f cs => exact .fn _ _ (pur1_all h)
  | iface t d => exact .iface _ _ (pur0_of h)
  | _ => exact pur0_of h
theorem pua : ∀ {ds : List D}, ds.all pur1 = true → PureAll ds
  | [], _ => trivial
  | d :: ds, h => by
    rw [List.all_cons, Bool.and_eq_true] at h
    exact ⟨pu_of h.1, pua h.2⟩
end Go.DL
namespace Go.Proofs.Ytoekdjdgeleelaa
open Go.RowKit Go.DL

abbrev SP (a b : Int) : D := .agg [I64 a, I64 b]
def widthB (n : Int) : Bool := decide (n ≥ 1) && decide (n ≤ 1099511627776)
def timeB (t : Int) : Bool := decide (t ≥ -4611686018427387904) && decide (t ≤ 4611686018427387903)
def boundB (t : Int) : Bool := decide (t ≥ -4611687117939015680) && decide (t ≤ 4611687117939015679)
set_option maxHeartbeats 4000000 in
theorem width_c (n : Int) : Fun Try.prog 30 [I64 n] (· = Bo (widthB n)) := by
  refine Fun.of Try.func30 rfl (Nat.le_of_ble_eq_true rfl) fun C => ?_
  refine WC.seq fun Fh1_ h1_ => ?_
  refine WC.region ?_
  refine RG.op _ _ rfl rfl (o_assign (.v _) rfl) ?_
  refine RG.nil (h1_ _ ?_)
  refine WC.seq fun Fh2_ h2_ => ?_
  refine WC.region ?_
  refine RG.op _ _ rfl rfl (o_move (.v _) rfl) ?_
  refine RG.op _ _ rfl rfl (o_geI rfl rfl) ?_
  refine RG.op _ _ rfl rfl (o_move (.v _) rfl) ?_
  refine RG.opg1 _ _ _ _ _ rfl rfl rfl rfl rfl (fun hb => o_move (.v _) rfl) ?_
  refine RG.opg1 _ _ _ _ _ rfl rfl rfl rfl rfl (fun hb => o_leI (gdT hb) rfl) ?_
  refine RG.op _ _ rfl rfl (o_and _ _ rfl rfl rfl) ?_
  refine RG.op _ _ rfl rfl (o_assign (.v _) rfl) ?_
  refine RG.nil (h2_ _ ?_)
  refine WC.ret ?_
  exact Ends.r1 rfl (.tmp _ (.v _) rfl) (.v _) (rfl)
set_option maxHeartbeats 4000000 in
theorem rwidth_c (n : Int) : Fun Try.prog 59 [I64 n] (· = Bo (widthB n)) := by
  refine Fun.of Try.func59 rfl (Nat.le_of_ble_eq_true rfl) fun C => ?_
  refine WC.seq fun Fh1_ h1_ => ?_
  refine WC.region ?_
  refine RG.op _ _ rfl rfl (o_assign (.v _) rfl) ?_
  refine RG.nil (h1_ _ ?_)
  refine WC.seq fun Fh2_ h2_ => ?_
  refine WC.region ?_
  refine RG.op _ _ rfl rfl (o_move (.v _) rfl) ?_
  refine RG.op _ _ rfl rfl (o_geI rfl rfl) ?_
  refine RG.op _ _ rfl rfl (o_move (.v _) rfl) ?_
  refine RG.opg1 _ _ _ _ _ rfl rfl rfl rfl rfl (fun hb => o_move (.v _) rfl) ?_
  refine RG.opg1 _ _ _ _ _ rfl rfl rfl rfl rfl (fun hb => o_leI (gdT hb) rfl) ?_
  refine RG.op _ _ rfl rfl (o_and _ _ rfl rfl rfl) ?_
  refine RG.op _ _ rfl rfl (o_assign (.v _) rfl) ?_
  refine RG.nil (h2_ _ ?_)
  refine WC.ret ?_
  exact Ends.r1 rfl (.tmp _ (.v _) rfl) (.v _) (rfl)
set_option maxHeartbeats 4000000 in
theorem time_c (n : Int) : Fun Try.prog 31 [I64 n] (· = Bo (timeB n)) := by
  refine Fun.of Try.func31 rfl (Nat.le_of_ble_eq_true rfl) fun C => ?_
  refine WC.seq fun Fh1_ h1_ => ?_
  refine WC.region ?_
  refine RG.op _ _ rfl rfl (o_assign (.v _) rfl) ?_
  refine RG.nil (h1_ _ ?_)
  refine WC.seq fun Fh2_ h2_ => ?_
  refine WC.region ?_
  refine RG.op _ _ rfl rfl (o_move (.v _) rfl) ?_
  refine RG.op _ _ rfl rfl (o_geI rfl rfl) ?_
  refine RG.op _ _ rfl rfl (o_move (.v _) rfl) ?_
  refine RG.opg1 _ _ _ _ _ rfl rfl rfl rfl rfl (fun hb => o_move (.v _) rfl) ?_
  refine RG.opg1 _ _ _ _ _ rfl rfl rfl rfl rfl (fun hb => o_leI (gdT hb) rfl) ?_
  refine RG.op _ _ rfl rfl (o_and _ _ rfl rfl rfl) ?_
  refine RG.op _ _ rfl rfl (o_assign (.v _) rfl) ?_
  refine RG.nil (h2_ _ ?_)
  refine WC.ret ?_
  exact Ends.r1 rfl (.tmp _ (.v _) rfl) (.v _) (rfl)
set_option maxHeartbeats 4000000 in
theorem rbound_c (n : Int) : Fun Try.prog 60 [I64 n] (· = Bo (boundB n)) := by
  refine Fun.of Try.func60 rfl (Nat.le_of_ble_eq_true rfl) fun C => ?_
  refine WC.seq fun Fh1_ h1_ => ?_
  refine WC.region ?_
  refine RG.op _ _ rfl rfl (o_assign (.v _) rfl) ?_
  refine RG.nil (h1_ _ ?_)
  refine WC.seq fun Fh2_ h2_ => ?_
  refine WC.region ?_
  refine RG.op _ _ rfl rfl (o_move (.v _) rfl) ?_
  refine RG.op _ _ rfl rfl (o_geI rfl rfl) ?_
  refine RG.op _ _ rfl rfl (o_move (.v _) rfl) ?_
  refine RG.opg1 _ _ _ _ _ rfl rfl rfl rfl rfl (fun hb => o_move (.v _) rfl) ?_
  refine RG.opg1 _ _ _ _ _ rfl rfl rfl rfl rfl (fun hb => o_leI (gdT hb) rfl) ?_
  refine RG.op _ _ rfl rfl (o_and _ _ rfl rfl rfl) ?_
  refine RG.op _ _ rfl rfl (o_assign (.v _) rfl) ?_
  refine RG.nil (h2_ _ ?_)
  refine WC.ret ?_
  exact Ends.r1 rfl (.tmp _ (.v _) rfl) (.v _) (rfl)
theorem boundB_not (t : Int) : (decide (t < -4611687117939015680) || decide (t > 4611687117939015679)) = !boundB t := by
  unfold boundB
  by_cases h1 : t < -4611687117939015680
  · rw [decide_eq_true h1, decide_eq_false (by omega : ¬ t ≥ -4611687117939015680)]; rfl
  · by_cases h2 : t > 4611687117939015679
    · rw [decide_eq_false h1, decide_eq_true h2, decide_eq_true (by omega : t ≥ -4611687117939015680), decide_eq_false (by omega : ¬ t ≤ 4611687117939015679)]; rfl
    · rw [decide_eq_false h1, decide_eq_false h2, decide_eq_true (by omega : t ≥ -4611687117939015680), decide_eq_true (by omega : t ≤ 4611687117939015679)]; rfl
theorem iall_step {l : List Int} {k : Nat} (h : k < l.length) (f : Int → Bool) (ha : (l.take k).all f = true) (hk : f l[k] = true) : (l.take (k + 1)).all f = true := by
  rw [List.take_succ_eq_append_getElem h, List.all_append, ha]; simp [hk]
theorem iall_stop {l : List Int} {k : Nat} (h : k < l.length) (f : Int → Bool) (hk : f l[k] = false) : l.all f = false := by
  rw [List.all_eq_false]; exact ⟨l[k], List.getElem_mem h, by simp [hk]⟩
set_option maxHeartbeats 4000000 in
theorem bounded_c (l : List Int) (hl : l.length ≤ 1000) : Fun Try.prog 70 [rdI l] (· = Bo (l.all boundB)) := by
  refine Fun.of Try.func70 rfl (Nat.le_of_ble_eq_true rfl) fun C => ?_
  refine WC.seq fun Fh1_ h1_ => ?_
  refine WC.region ?_
  refine RG.op _ _ rfl rfl (o_assign (.v _) rfl) ?_
  refine RG.nil (h1_ _ ?_)
  refine WC.seq fun Fh2_ h2_ => ?_
  refine WC.seq fun Fh3_ h3_ => ?_
  refine WC.region ?_
  refine RG.op _ _ rfl rfl (o_move (.rd _ _) rfl) ?_
  refine RG.op _ _ rfl rfl (o_len_rd rfl Try.underlying67) ?_
  refine RG.op _ _ rfl rfl (o_move (.v _) rfl) ?_
  refine RG.nil (h3_ _ ?_)
  refine WC.block ?_
  refine WC.loopU [2, 4, 7, 8, 9, 10, 11, 12, 13, 14, 15, 16, 17] (fun (k : Nat) => [(7, I64 ((k : Nat) : Int))]) (fun (k : Nat) => []) (fun (k : Nat) => k ≤ l.length ∧ (l.take k).all boundB = true) (fun (k : Nat) => l.length - k) 0 ⟨by omega, rfl⟩ ?lpa4_ ?lpb5_
  case lpa4_ =>
    exact .mk' ⟨⟨rfl, .v _⟩, trivial⟩ (same_refl _ _) (rfl) (by repeat (first | exact trivial | refine And.intro (Nat.le_refl _) ?_ | refine And.intro trivial ?_ | refine And.intro (by show _ ≤ _; (first | omega | (simp only [LS] <;> omega))) ?_)) (by repeat (first | exact trivial | refine And.intro (one_ok (.own _ _ _ _ _ (Nat.le_refl _))) ?_ | refine And.intro (okp (by repeat (first | exact pu_bytes _ | exact pu_nil | exact pu_vs rfl | exact pu_map (fun _ => .v _) _ | exact pu_vals _ | refine pu_app ?_ ?_ | refine pu_cons (by exact pu_of rfl) ?_))) ?_))
  case lpb5_ =>
    rintro k hI
    obtain ⟨hk, ha⟩ := id hI
    refine WC.seq fun Fh6_ h6_ => ?_
    refine WC.region ?_
    refine RG.op _ _ rfl rfl (o_ltI rfl rfl) ?_
    refine RG.nil (h6_ _ ?_)
    refine WC.seq fun Fh7_ h7_ => ?_
    refine WC.cond _ rfl (fun c2 => ?_) (fun c2 => ?_)
    ·
      have p2 := c2
      try simp only [CN] at p2
      have hkl : k < l.length := by omega
      refine WC.skip (h7_ _ ?_)
      refine WC.seq fun Fh8_ h8_ => ?_
      refine WC.block ?_
      refine WC.seq fun Fh9_ h9_ => ?_
      refine WC.region ?_
      refine RG.op _ _ rfl rfl (o_ixn_M k rfl rfl Try.underlying67 (sz_of Ty.inf2) (by first | omega | exact ubyte _ | (simp only [LS] <;> omega)) (by first | omega | exact ubyte _ | (simp only [LS] <;> omega))) ?_
      refine RG.op _ _ rfl rfl (o_load_adr rfl Try.underlying2 rfl rfl) ?_
      refine RG.op _ _ rfl rfl (o_assign (.v _) rfl) ?_
      refine RG.nil (h9_ _ ?_)
      refine WC.seq fun Fh10_ h10_ => ?_
      refine WC.region ?_
      refine RG.op _ _ rfl rfl (o_move (.v _) rfl) ?_
      refine RG.op _ _ rfl rfl (o_ltI rfl rfl) ?_
      refine RG.op _ _ rfl rfl (o_move (.v _) rfl) ?_
      refine RG.opg1 _ _ _ _ _ rfl rfl rfl rfl rfl (fun hb => o_move (.v _) rfl) ?_
      refine RG.opg1 _ _ _ _ _ rfl rfl rfl rfl rfl (fun hb => o_gtI (gdT hb) rfl) ?_
      refine RG.op _ _ rfl rfl (o_or _ _ rfl rfl rfl) ?_
      refine RG.nil (h10_ _ ?_)
      refine WC.cond _ rfl (fun c4 => ?_) (fun c4 => ?_)
      ·
        have p4 := c4
        try simp only [CN] at p4
        refine WC.seq fun Fh11_ h11_ => ?_
        refine WC.region ?_
        refine RG.op _ _ rfl rfl (o_assign (.v _) rfl) ?_
        refine RG.nil (h11_ _ ?_)
        refine WC.ret ?_
        exact Ends.r1 rfl (.tmp _ (.v _) rfl) (.v _) (congrArg Bo (by rw [iall_stop hkl boundB (by have := (boundB_not (l[k]'hkl)).symm.trans c4; simpa using this)]))
      ·
        have p4 := c4
        try simp only [CN] at p4
        refine WC.skip (h8_ _ ?_)
        refine WC.region ?_
        refine RG.op _ _ rfl rfl (o_add rfl rfl (by first | omega | exact ubyte _ | (simp only [LS] <;> omega)) (by first | omega | exact ubyte _ | (simp only [LS] <;> omega))) ?_
        refine RG.op _ _ rfl rfl (o_move (.v _) rfl) ?_
        refine RG.nil (Exists.intro (k + 1) ⟨⟨by omega, iall_step hkl boundB ha (by have := (boundB_not (l[k]'hkl)).symm.trans c4; simpa using this)⟩, by first | omega | (simp only [LS] <;> omega), ?_⟩)
        exact .mk' ⟨⟨rfl, .v _⟩, trivial⟩ (by repeat (first | with_reducible exact same_refl _ _ | with_reducible refine same_updO (by with_unfolding_all exact rfl) ?_ | with_reducible refine same_updN ?_ | with_reducible refine same_updL (by with_unfolding_all exact rfl) ?_ | with_reducible refine same_forget (by with_unfolding_all exact rfl) ?_)) (rfl) (by repeat (first | exact trivial | refine And.intro (Nat.le_refl _) ?_ | refine And.intro trivial ?_ | refine And.intro (by show _ ≤ _; (first | omega | (simp only [LS] <;> omega))) ?_)) (by repeat (first | exact trivial | refine And.intro (one_ok (.own _ _ _ _ _ (Nat.le_refl _))) ?_ | refine And.intro (okp (by repeat (first | exact pu_bytes _ | exact pu_nil | exact pu_vs rfl | exact pu_map (fun _ => .v _) _ | exact pu_vals _ | refine pu_app ?_ ?_ | refine pu_cons (by exact pu_of rfl) ?_))) ?_))
    ·
      have p2 := c2
      try simp only [CN] at p2
      refine WC.exit (h2_ _ ?_)
      refine WC.seq fun Fh12_ h12_ => ?_
      refine WC.region ?_
      refine RG.op _ _ rfl rfl (o_assign (.v _) rfl) ?_
      refine RG.nil (h12_ _ ?_)
      refine WC.ret ?_
      exact Ends.r1 rfl (.tmp _ (.v _) rfl) (.v _) (congrArg Bo (by have e : k = l.length := (by omega); subst e; rw [List.take_length] at ha; rw [ha]))
/-- What is wrong with a width and with numbers. -/
def wrongE (n : Int) (l : List Int) : Int := bif !(widthB n) then 1 else bif !(l.all boundB) then 7 else 0
set_option maxHeartbeats 4000000 in
theorem check_c (n : Int) (l : List Int) (hl : l.length ≤ 1000) : Fun Try.prog 55 [I64 n, rdI l] (· = I64 (wrongE n l)) := by
  refine Fun.of Try.func55 rfl (Nat.le_of_ble_eq_true rfl) fun C => ?_
  refine WC.seq fun Fh1_ h1_ => ?_
  refine WC.region ?_
  refine RG.op _ _ rfl rfl (o_assign (.v _) rfl) ?_
  refine RG.nil (h1_ _ ?_)
  refine WC.seq fun Fh2_ h2_ => ?_
  refine WC.seq fun Fh3_ h3_ => ?_
  refine WC.region ?_
  refine RG.op _ _ rfl rfl (o_move (.v _) rfl) ?_
  refine RG.op _ _ rfl rfl (o_call Ty.cal30 (width_c _) ⟨.inl rfl, trivial⟩ (by exact pua rfl)) ?_
  refine RG.op _ _ rfl rfl (o_not rfl) ?_
  refine RG.nil (h3_ _ ?_)
  refine WC.cond _ rfl (fun c1 => ?_) (fun c1 => ?_)
  ·
    have p1 := c1
    try simp only [CN] at p1
    refine WC.seq fun Fh4_ h4_ => ?_
    refine WC.region ?_
    refine RG.op _ _ rfl rfl (o_assign (.v _) rfl) ?_
    refine RG.nil (h4_ _ ?_)
    refine WC.ret ?_
    exact Ends.r1 rfl (.tmp _ (.v _) rfl) (.v _) (congrArg I64 (by unfold wrongE; simp [*]))
  ·
    have p1 := c1
    try simp only [CN] at p1
    refine WC.skip (h2_ _ ?_)
    refine WC.seq fun Fh5_ h5_ => ?_
    refine WC.seq fun Fh6_ h6_ => ?_
    refine WC.region ?_
    refine RG.op _ _ rfl rfl (o_move (.rd _ _) rfl) ?_
    first | refine RG.op _ _ rfl rfl (o_call Ty.cal70 (bounded_c _ (by first | omega | exact ubyte _ | (simp only [LS] <;> omega))) ⟨.inl rfl, trivial⟩ (by exact pua rfl)) ?_ | refine RG.op _ _ rfl rfl (o_call Ty.cal70 (bounded_c [_] (by first | omega | exact ubyte _ | (simp only [LS] <;> omega))) ⟨.inl rfl, trivial⟩ (by exact pua rfl)) ?_ | refine RG.op _ _ rfl rfl (o_call Ty.cal70 (bounded_c [_, _] (by first | omega | exact ubyte _ | (simp only [LS] <;> omega))) ⟨.inl rfl, trivial⟩ (by exact pua rfl)) ?_
    refine RG.op _ _ rfl rfl (o_not rfl) ?_
    refine RG.nil (h6_ _ ?_)
    refine WC.cond _ rfl (fun c3 => ?_) (fun c3 => ?_)
    ·
      have p3 := c3
      try simp only [CN] at p3
      refine WC.seq fun Fh7_ h7_ => ?_
      refine WC.region ?_
      refine RG.op _ _ rfl rfl (o_assign (.v _) rfl) ?_
      refine RG.nil (h7_ _ ?_)
      refine WC.ret ?_
      exact Ends.r1 rfl (.tmp _ (.v _) rfl) (.v _) (congrArg I64 (by unfold wrongE; simp [*]))
    ·
      have p3 := c3
      try simp only [CN] at p3
      refine WC.skip (h5_ _ ?_)
      refine WC.seq fun Fh8_ h8_ => ?_
      refine WC.region ?_
      refine RG.op _ _ rfl rfl (o_assign (.v _) rfl) ?_
      refine RG.nil (h8_ _ ?_)
      refine WC.ret ?_
      exact Ends.r1 rfl (.tmp _ (.v _) rfl) (.v _) (congrArg I64 (by unfold wrongE; simp [*]))
def floorZ (t n : Int) : Int := t - t % n
def ceilZ (t n : Int) : Int := if floorZ t n < t then floorZ t n + n else floorZ t n
/-- A number whose buckets can be reckoned; a width. -/
def Fit (t : Int) : Prop := -4611687117939015680 ≤ t ∧ t ≤ 4611687117939015679
def Wid (n : Int) : Prop := 1 ≤ n ∧ n ≤ 1099511627776
theorem floor_tm {t n : Int} (hn : 1 ≤ n) : (t.tmod n < 0 → t - (t.tmod n + n) = floorZ t n) ∧ (¬ t.tmod n < 0 → t - t.tmod n = floorZ t n) ∧ -n < t.tmod n ∧ t.tmod n < n := by
  by_cases h0 : 0 ≤ t
  · have e : t.tmod n = t % n := Int.tmod_eq_emod_of_nonneg h0
    have h1 := Int.emod_nonneg t (show n ≠ 0 by omega)
    have h2 := Int.emod_lt_of_pos t (show 0 < n by omega)
    rw [e]
    exact ⟨fun h => by omega, fun _ => rfl, by omega, h2⟩
  have h : t < 0 := by omega
  have e : t.tmod n = -((-t) % n) := by
    have : t = -(-t) := by omega
    rw [this, Int.neg_tmod, Int.tmod_eq_emod_of_nonneg (by omega)]; simp
  have h1 := Int.emod_nonneg (-t) (show n ≠ 0 by omega)
  have h2 := Int.emod_lt_of_pos (-t) (show 0 < n by omega)
  have h3 := Int.emod_nonneg t (show n ≠ 0 by omega)
  have h4 := Int.emod_lt_of_pos t (show 0 < n by omega)
  have d1 := Int.mul_ediv_add_emod t n
  have d2 := Int.mul_ediv_add_emod (-t) n
  have key : (-t) % n = 0 ∧ t % n = 0 ∨ (-t) % n + t % n = n := by
    have hm : n * (t / n + (-t) / n) = -(t % n + (-t) % n) := by rw [Int.mul_add]; omega
    have hq : t / n + (-t) / n = 0 ∨ t / n + (-t) / n = -1 := by
      by_cases h : t / n + (-t) / n < -1
      · have : n * (t / n + (-t) / n) ≤ n * (-2) := Int.mul_le_mul_of_nonneg_left (by omega) (by omega)
        omega
      · by_cases h' : 0 < t / n + (-t) / n
        · have : n * 1 ≤ n * (t / n + (-t) / n) := Int.mul_le_mul_of_nonneg_left (by omega) (by omega)
          omega
        · omega
    rcases hq with hq | hq
    · rw [hq] at hm; left; omega
    · rw [hq] at hm; right; omega
  rw [e]
  unfold floorZ
  refine ⟨fun h => ?_, fun h => ?_, by omega, by omega⟩ <;> omega
theorem floorZ_le {t n : Int} (hn : 1 ≤ n) : t - n < floorZ t n ∧ floorZ t n ≤ t := by
  have h3 := Int.emod_nonneg t (show n ≠ 0 by omega)
  have h4 := Int.emod_lt_of_pos t (show 0 < n by omega)
  unfold floorZ; omega
theorem wrong_ok {n : Int} {l : List Int} (h : wrongE n l = 0) : Wid n ∧ ∀ t ∈ l, Fit t := by
  unfold wrongE at h
  cases hw : widthB n with
  | false => rw [hw] at h; cases h
  | true =>
    rw [hw] at h
    cases hb : l.all boundB with
    | false => rw [hb] at h; cases h
    | true =>
      unfold widthB at hw
      rw [Bool.and_eq_true, decide_eq_true_iff, decide_eq_true_iff] at hw
      refine ⟨hw, fun t ht => ?_⟩
      have := List.all_eq_true.1 hb t ht
      unfold boundB at this
      rw [Bool.and_eq_true, decide_eq_true_iff, decide_eq_true_iff] at this
      exact this
end Go.Proofs.Ytoekdjdgeleelaa
namespace Go.Proofs.Ytoekdjdgeleelaa
open Go.RowKit Go.DL

set_option maxHeartbeats 4000000 in
theorem floor_c (t n : Int) (ht : Fit t) (hn : Wid n) : Fun Try.prog 56 [I64 t, I64 n] (· = I64 (floorZ t n)) := by
  have ht' := ht
  have hn' := hn
  obtain ⟨ht1, ht2⟩ := ht'
  obtain ⟨hn1, hn2⟩ := hn'
  obtain ⟨f1, f2, f3, f4⟩ := floor_tm (t := t) hn1
  refine Fun.of Try.func56 rfl (Nat.le_of_ble_eq_true rfl) fun C => ?_
  refine WC.seq fun Fh1_ h1_ => ?_
  refine WC.region ?_
  refine RG.op _ _ rfl rfl (o_assign (.v _) rfl) ?_
  refine RG.nil (h1_ _ ?_)
  refine WC.seq fun Fh2_ h2_ => ?_
  refine WC.region ?_
  refine RG.op _ _ rfl rfl (o_move (.v _) rfl) ?_
  refine RG.op _ _ rfl rfl (o_move (.v _) rfl) ?_
  refine RG.op _ _ rfl rfl (o_tmod rfl rfl (by omega)) ?_
  refine RG.op _ _ rfl rfl (o_assign (.v _) rfl) ?_
  refine RG.nil (h2_ _ ?_)
  refine WC.seq fun Fh3_ h3_ => ?_
  refine WC.seq fun Fh4_ h4_ => ?_
  refine WC.region ?_
  refine RG.op _ _ rfl rfl (o_move (.v _) rfl) ?_
  refine RG.op _ _ rfl rfl (o_ltI rfl rfl) ?_
  refine RG.nil (h4_ _ ?_)
  refine WC.cond _ rfl (fun c2 => ?_) (fun c2 => ?_)
  ·
    have p2 := c2
    try simp only [CN] at p2
    refine WC.region ?_
    refine RG.op _ _ rfl rfl (o_move (.v _) rfl) ?_
    refine RG.op _ _ rfl rfl (o_move (.v _) rfl) ?_
    refine RG.op _ _ rfl rfl (o_add rfl rfl (by first | omega | exact ubyte _ | (simp only [LS] <;> omega)) (by first | omega | exact ubyte _ | (simp only [LS] <;> omega))) ?_
    refine RG.op _ _ rfl rfl (o_assign (.v _) rfl) ?_
    refine RG.nil (h3_ _ ?_)
    refine WC.seq fun Fh5_ h5_ => ?_
    refine WC.region ?_
    refine RG.op _ _ rfl rfl (o_move (.v _) rfl) ?_
    refine RG.op _ _ rfl rfl (o_move (.v _) rfl) ?_
    refine RG.op _ _ rfl rfl (o_sub rfl rfl (by first | omega | exact ubyte _ | (simp only [LS] <;> omega)) (by first | omega | exact ubyte _ | (simp only [LS] <;> omega))) ?_
    refine RG.op _ _ rfl rfl (o_assign (.v _) rfl) ?_
    refine RG.nil (h5_ _ ?_)
    refine WC.ret ?_
    exact Ends.r1 rfl (.tmp _ (.v _) rfl) (.v _) (congrArg I64 (f1 p2))
  ·
    have p2 := c2
    try simp only [CN] at p2
    refine WC.skip (h3_ _ ?_)
    refine WC.seq fun Fh6_ h6_ => ?_
    refine WC.region ?_
    refine RG.op _ _ rfl rfl (o_move (.v _) rfl) ?_
    refine RG.op _ _ rfl rfl (o_move (.v _) rfl) ?_
    refine RG.op _ _ rfl rfl (o_sub rfl rfl (by first | omega | exact ubyte _ | (simp only [LS] <;> omega)) (by first | omega | exact ubyte _ | (simp only [LS] <;> omega))) ?_
    refine RG.op _ _ rfl rfl (o_assign (.v _) rfl) ?_
    refine RG.nil (h6_ _ ?_)
    refine WC.ret ?_
    exact Ends.r1 rfl (.tmp _ (.v _) rfl) (.v _) (congrArg I64 (f2 (by omega)))
set_option maxHeartbeats 4000000 in
theorem rfloor_c (t n : Int) (ht : Fit t) (hn : Wid n) : Fun Try.prog 62 [I64 t, I64 n] (· = I64 (floorZ t n)) := by
  have ht' := ht
  have hn' := hn
  obtain ⟨ht1, ht2⟩ := ht'
  obtain ⟨hn1, hn2⟩ := hn'
  obtain ⟨f1, f2, f3, f4⟩ := floor_tm (t := t) hn1
  refine Fun.of Try.func62 rfl (Nat.le_of_ble_eq_true rfl) fun C => ?_
  refine WC.seq fun Fh1_ h1_ => ?_
  refine WC.region ?_
  refine RG.op _ _ rfl rfl (o_assign (.v _) rfl) ?_
  refine RG.nil (h1_ _ ?_)
  refine WC.seq fun Fh2_ h2_ => ?_
  refine WC.region ?_
  refine RG.op _ _ rfl rfl (o_move (.v _) rfl) ?_
  refine RG.op _ _ rfl rfl (o_move (.v _) rfl) ?_
  refine RG.op _ _ rfl rfl (o_tmod rfl rfl (by omega)) ?_
  refine RG.op _ _ rfl rfl (o_assign (.v _) rfl) ?_
  refine RG.nil (h2_ _ ?_)
  refine WC.seq fun Fh3_ h3_ => ?_
  refine WC.seq fun Fh4_ h4_ => ?_
  refine WC.region ?_
  refine RG.op _ _ rfl rfl (o_move (.v _) rfl) ?_
  refine RG.op _ _ rfl rfl (o_ltI rfl rfl) ?_
  refine RG.nil (h4_ _ ?_)
  refine WC.cond _ rfl (fun c2 => ?_) (fun c2 => ?_)
  ·
    have p2 := c2
    try simp only [CN] at p2
    refine WC.region ?_
    refine RG.op _ _ rfl rfl (o_move (.v _) rfl) ?_
    refine RG.op _ _ rfl rfl (o_move (.v _) rfl) ?_
    refine RG.op _ _ rfl rfl (o_add rfl rfl (by first | omega | exact ubyte _ | (simp only [LS] <;> omega)) (by first | omega | exact ubyte _ | (simp only [LS] <;> omega))) ?_
    refine RG.op _ _ rfl rfl (o_assign (.v _) rfl) ?_
    refine RG.nil (h3_ _ ?_)
    refine WC.seq fun Fh5_ h5_ => ?_
    refine WC.region ?_
    refine RG.op _ _ rfl rfl (o_move (.v _) rfl) ?_
    refine RG.op _ _ rfl rfl (o_move (.v _) rfl) ?_
    refine RG.op _ _ rfl rfl (o_sub rfl rfl (by first | omega | exact ubyte _ | (simp only [LS] <;> omega)) (by first | omega | exact ubyte _ | (simp only [LS] <;> omega))) ?_
    refine RG.op _ _ rfl rfl (o_assign (.v _) rfl) ?_
    refine RG.nil (h5_ _ ?_)
    refine WC.ret ?_
    exact Ends.r1 rfl (.tmp _ (.v _) rfl) (.v _) (congrArg I64 (f1 p2))
  ·
    have p2 := c2
    try simp only [CN] at p2
    refine WC.skip (h3_ _ ?_)
    refine WC.seq fun Fh6_ h6_ => ?_
    refine WC.region ?_
    refine RG.op _ _ rfl rfl (o_move (.v _) rfl) ?_
    refine RG.op _ _ rfl rfl (o_move (.v _) rfl) ?_
    refine RG.op _ _ rfl rfl (o_sub rfl rfl (by first | omega | exact ubyte _ | (simp only [LS] <;> omega)) (by first | omega | exact ubyte _ | (simp only [LS] <;> omega))) ?_
    refine RG.op _ _ rfl rfl (o_assign (.v _) rfl) ?_
    refine RG.nil (h6_ _ ?_)
    refine WC.ret ?_
    exact Ends.r1 rfl (.tmp _ (.v _) rfl) (.v _) (congrArg I64 (f2 (by omega)))
set_option maxHeartbeats 4000000 in
theorem ceil_c (t n : Int) (ht : Fit t) (hn : Wid n) : Fun Try.prog 57 [I64 t, I64 n] (· = I64 (ceilZ t n)) := by
  have ht' := ht
  have hn' := hn
  obtain ⟨ht1, ht2⟩ := ht'
  obtain ⟨hn1, hn2⟩ := hn'
  obtain ⟨f1, f2⟩ := floorZ_le (t := t) hn1
  refine Fun.of Try.func57 rfl (Nat.le_of_ble_eq_true rfl) fun C => ?_
  refine WC.seq fun Fh1_ h1_ => ?_
  refine WC.region ?_
  refine RG.op _ _ rfl rfl (o_assign (.v _) rfl) ?_
  refine RG.nil (h1_ _ ?_)
  refine WC.seq fun Fh2_ h2_ => ?_
  refine WC.region ?_
  refine RG.op _ _ rfl rfl (o_move (.v _) rfl) ?_
  refine RG.op _ _ rfl rfl (o_move (.v _) rfl) ?_
  refine RG.op _ _ rfl rfl (o_call Ty.cal56 (floor_c _ _ (by assumption) (by assumption)) ⟨.inl rfl, .inl rfl, trivial⟩ (by exact pua rfl)) ?_
  refine RG.op _ _ rfl rfl (o_assign (.v _) rfl) ?_
  refine RG.nil (h2_ _ ?_)
  refine WC.seq fun Fh3_ h3_ => ?_
  refine WC.seq fun Fh4_ h4_ => ?_
  refine WC.region ?_
  refine RG.op _ _ rfl rfl (o_move (.v _) rfl) ?_
  refine RG.op _ _ rfl rfl (o_move (.v _) rfl) ?_
  refine RG.op _ _ rfl rfl (o_ltI rfl rfl) ?_
  refine RG.nil (h4_ _ ?_)
  refine WC.cond _ rfl (fun c2 => ?_) (fun c2 => ?_)
  ·
    have p2 := c2
    try simp only [CN] at p2
    refine WC.region ?_
    refine RG.op _ _ rfl rfl (o_move (.v _) rfl) ?_
    refine RG.op _ _ rfl rfl (o_move (.v _) rfl) ?_
    refine RG.op _ _ rfl rfl (o_add rfl rfl (by first | omega | exact ubyte _ | (simp only [LS] <;> omega)) (by first | omega | exact ubyte _ | (simp only [LS] <;> omega))) ?_
    refine RG.op _ _ rfl rfl (o_assign (.v _) rfl) ?_
    refine RG.nil (h3_ _ ?_)
    refine WC.seq fun Fh5_ h5_ => ?_
    refine WC.region ?_
    refine RG.op _ _ rfl rfl (o_move (.v _) rfl) ?_
    refine RG.op _ _ rfl rfl (o_assign (.v _) rfl) ?_
    refine RG.nil (h5_ _ ?_)
    refine WC.ret ?_
    exact Ends.r1 rfl (.tmp _ (.v _) rfl) (.v _) (congrArg I64 (by unfold ceilZ; rw [if_pos p2]))
  ·
    have p2 := c2
    try simp only [CN] at p2
    refine WC.skip (h3_ _ ?_)
    refine WC.seq fun Fh6_ h6_ => ?_
    refine WC.region ?_
    refine RG.op _ _ rfl rfl (o_move (.v _) rfl) ?_
    refine RG.op _ _ rfl rfl (o_assign (.v _) rfl) ?_
    refine RG.nil (h6_ _ ?_)
    refine WC.ret ?_
    exact Ends.r1 rfl (.tmp _ (.v _) rfl) (.v _) (congrArg I64 (by unfold ceilZ; rw [if_neg (by omega)]))
set_option maxHeartbeats 4000000 in
theorem rceil_c (t n : Int) (ht : Fit t) (hn : Wid n) : Fun Try.prog 63 [I64 t, I64 n] (· = I64 (ceilZ t n)) := by
  have ht' := ht
  have hn' := hn
  obtain ⟨ht1, ht2⟩ := ht'
  obtain ⟨hn1, hn2⟩ := hn'
  obtain ⟨f1, f2⟩ := floorZ_le (t := t) hn1
  refine Fun.of Try.func63 rfl (Nat.le_of_ble_eq_true rfl) fun C => ?_
  refine WC.seq fun Fh1_ h1_ => ?_
  refine WC.region ?_
  refine RG.op _ _ rfl rfl (o_assign (.v _) rfl) ?_
  refine RG.nil (h1_ _ ?_)
  refine WC.seq fun Fh2_ h2_ => ?_
  refine WC.region ?_
  refine RG.op _ _ rfl rfl (o_move (.v _) rfl) ?_
  refine RG.op _ _ rfl rfl (o_move (.v _) rfl) ?_
  refine RG.op _ _ rfl rfl (o_call Ty.cal62 (rfloor_c _ _ (by assumption) (by assumption)) ⟨.inl rfl, .inl rfl, trivial⟩ (by exact pua rfl)) ?_
  refine RG.op _ _ rfl rfl (o_assign (.v _) rfl) ?_
  refine RG.nil (h2_ _ ?_)
  refine WC.seq fun Fh3_ h3_ => ?_
  refine WC.seq fun Fh4_ h4_ => ?_
  refine WC.region ?_
  refine RG.op _ _ rfl rfl (o_move (.v _) rfl) ?_
  refine RG.op _ _ rfl rfl (o_move (.v _) rfl) ?_
  refine RG.op _ _ rfl rfl (o_ltI rfl rfl) ?_
  refine RG.nil (h4_ _ ?_)
  refine WC.cond _ rfl (fun c2 => ?_) (fun c2 => ?_)
  ·
    have p2 := c2
    try simp only [CN] at p2
    refine WC.region ?_
    refine RG.op _ _ rfl rfl (o_move (.v _) rfl) ?_
    refine RG.op _ _ rfl rfl (o_move (.v _) rfl) ?_
    refine RG.op _ _ rfl rfl (o_add rfl rfl (by first | omega | exact ubyte _ | (simp only [LS] <;> omega)) (by first | omega | exact ubyte _ | (simp only [LS] <;> omega))) ?_
    refine RG.op _ _ rfl rfl (o_assign (.v _) rfl) ?_
    refine RG.nil (h3_ _ ?_)
    refine WC.seq fun Fh5_ h5_ => ?_
    refine WC.region ?_
    refine RG.op _ _ rfl rfl (o_move (.v _) rfl) ?_
    refine RG.op _ _ rfl rfl (o_assign (.v _) rfl) ?_
    refine RG.nil (h5_ _ ?_)
    refine WC.ret ?_
    exact Ends.r1 rfl (.tmp _ (.v _) rfl) (.v _) (congrArg I64 (by unfold ceilZ; rw [if_pos p2]))
  ·
    have p2 := c2
    try simp only [CN] at p2
    refine WC.skip (h3_ _ ?_)
    refine WC.seq fun Fh6_ h6_ => ?_
    refine WC.region ?_
    refine RG.op _ _ rfl rfl (o_move (.v _) rfl) ?_
    refine RG.op _ _ rfl rfl (o_assign (.v _) rfl) ?_
    refine RG.nil (h6_ _ ?_)
    refine WC.ret ?_
    exact Ends.r1 rfl (.tmp _ (.v _) rfl) (.v _) (congrArg I64 (by unfold ceilZ; rw [if_neg (by omega)]))
/-! ### Spans -/
def emptyB (a b : Int) : Bool := decide (b ≤ a)
def gA (a b : Int) : Int := bif emptyB a b then 0 else a
def gB (a b : Int) : Int := bif emptyB a b then 0 else b
abbrev goodD (a b : Int) : D := SP (gA a b) (gB a b)
theorem good_t {a b : Int} (h : emptyB a b = true) : SP 0 0 = goodD a b := by unfold goodD gA gB; rw [h]; rfl
theorem good_f {a b : Int} (h : emptyB a b = false) : SP a b = goodD a b := by unfold goodD gA gB; rw [h]; rfl
set_option maxHeartbeats 4000000 in
theorem empty_c (a b : Int) : Fun Try.prog 42 [SP a b] (· = Bo (emptyB a b)) := by
  refine Fun.of Try.func42 rfl (Nat.le_of_ble_eq_true rfl) fun C => ?_
  refine WC.seq fun Fh1_ h1_ => ?_
  refine WC.region ?_
  refine RG.op _ _ rfl rfl (o_box (d := .agg [_, _]) rfl rfl) ?_
  refine RG.op _ _ rfl rfl (o_assign (.v _) rfl) ?_
  refine RG.nil (h1_ _ ?_)
  refine WC.seq fun Fh2_ h2_ => ?_
  refine WC.region ?_
  refine RG.op _ _ rfl rfl (o_fld_ptr rfl Try.underlying36 rfl (sz_of Ty.inf2) (by decide)) ?_
  refine RG.op _ _ rfl rfl (o_load_ptr rfl Try.underlying2 rfl rfl rfl rfl) ?_
  refine RG.op _ _ rfl rfl (o_fld_ptr rfl Try.underlying36 rfl (sz_of Ty.inf2) (by decide)) ?_
  refine RG.op _ _ rfl rfl (o_load_ptr rfl Try.underlying2 rfl rfl rfl rfl) ?_
  refine RG.op _ _ rfl rfl (o_leI rfl rfl) ?_
  refine RG.op _ _ rfl rfl (o_assign (.v _) rfl) ?_
  refine RG.nil (h2_ _ ?_)
  refine WC.ret ?_
  exact Ends.r1 rfl (.tmp _ (.v _) rfl) (.v _) (rfl)
set_option maxHeartbeats 4000000 in
theorem good_c (a b : Int) : Fun Try.prog 61 [I64 a, I64 b] (· = goodD a b) := by
  refine Fun.of Try.func61 rfl (Nat.le_of_ble_eq_true rfl) fun C => ?_
  refine WC.seq fun Fh1_ h1_ => ?_
  refine WC.region ?_
  refine RG.op _ _ rfl rfl (o_alloc (z_of Ty.inf36) rfl) ?_
  refine RG.nil (h1_ _ ?_)
  refine WC.seq fun Fh2_ h2_ => ?_
  refine WC.seq fun Fh3_ h3_ => ?_
  refine WC.region ?_
  refine RG.op _ _ rfl rfl (o_move (.v _) rfl) ?_
  refine RG.op _ _ rfl rfl (o_move (.v _) rfl) ?_
  refine RG.op _ _ rfl rfl (o_leI rfl rfl) ?_
  refine RG.nil (h3_ _ ?_)
  refine WC.cond _ rfl (fun c1 => ?_) (fun c1 => ?_)
  ·
    have p1 := c1
    try simp only [CN] at p1
    refine WC.seq fun Fh4_ h4_ => ?_
    refine WC.region ?_
    refine RG.op _ _ rfl rfl (o_build (cs := [I64 0, I64 0]) Try.underlying36 Ty.inf36 (Ty.pl36 Try.underlying36) rfl) ?_
    refine RG.op _ _ rfl rfl (o_store (d := (.agg [_, _])) rfl rfl rfl rfl (sz_of Ty.inf36) (Nat.le_of_ble_eq_true rfl) rfl) ?_
    refine RG.nil (h4_ _ ?_)
    refine WC.ret ?_
    exact Ends.r1 rfl (.agg rfl Try.underlying36 rfl (sz_of Ty.inf36) rfl rfl rfl) (.pure' (by exact pu_of rfl)) (good_t c1)
  ·
    have p1 := c1
    try simp only [CN] at p1
    refine WC.skip (h2_ _ ?_)
    refine WC.seq fun Fh5_ h5_ => ?_
    refine WC.region ?_
    refine RG.op _ _ rfl rfl (o_move (.v _) rfl) ?_
    refine RG.op _ _ rfl rfl (o_move (.v _) rfl) ?_
    refine RG.op _ _ rfl rfl (o_build (cs := [(.v _), (.v _)]) Try.underlying36 Ty.inf36 (Ty.pl36 Try.underlying36) rfl) ?_
    refine RG.op _ _ rfl rfl (o_store (d := (.agg [_, _])) rfl rfl rfl rfl (sz_of Ty.inf36) (Nat.le_of_ble_eq_true rfl) rfl) ?_
    refine RG.nil (h5_ _ ?_)
    refine WC.ret ?_
    exact Ends.r1 rfl (.agg rfl Try.underlying36 rfl (sz_of Ty.inf36) rfl rfl rfl) (.pure' (by exact pu_of rfl)) (good_f c1)
set_option maxHeartbeats 4000000 in
theorem orZero_c (a b : Int) : Fun Try.prog 72 [SP a b] (· = goodD a b) := by
  refine Fun.of Try.func72 rfl (Nat.le_of_ble_eq_true rfl) fun C => ?_
  refine WC.seq fun Fh1_ h1_ => ?_
  refine WC.region ?_
  refine RG.op _ _ rfl rfl (o_box (d := .agg [_, _]) rfl rfl) ?_
  refine RG.op _ _ rfl rfl (o_alloc (z_of Ty.inf36) rfl) ?_
  refine RG.nil (h1_ _ ?_)
  refine WC.seq fun Fh2_ h2_ => ?_
  refine WC.seq fun Fh3_ h3_ => ?_
  refine WC.region ?_
  refine RG.op _ _ rfl rfl (o_load_ptr_L (xs := [_, _]) rfl Try.underlying36 rfl (sz_of Ty.inf36) rfl rfl rfl rfl) ?_
  refine RG.op _ _ rfl rfl (o_call Ty.cal42 (empty_c _ _) ⟨.inl rfl, trivial⟩ (by exact pua rfl)) ?_
  refine RG.nil (h3_ _ ?_)
  refine WC.cond _ rfl (fun c1 => ?_) (fun c1 => ?_)
  ·
    have p1 := c1
    try simp only [CN] at p1
    refine WC.seq fun Fh4_ h4_ => ?_
    refine WC.region ?_
    refine RG.op _ _ rfl rfl (o_build (cs := [I64 0, I64 0]) Try.underlying36 Ty.inf36 (Ty.pl36 Try.underlying36) rfl) ?_
    refine RG.op _ _ rfl rfl (o_store (d := (.agg [_, _])) rfl rfl rfl rfl (sz_of Ty.inf36) (Nat.le_of_ble_eq_true rfl) rfl) ?_
    refine RG.nil (h4_ _ ?_)
    refine WC.ret ?_
    exact Ends.r1 rfl (.agg rfl Try.underlying36 rfl (sz_of Ty.inf36) rfl rfl rfl) (.pure' (by exact pu_of rfl)) (good_t c1)
  ·
    have p1 := c1
    try simp only [CN] at p1
    refine WC.skip (h2_ _ ?_)
    refine WC.seq fun Fh5_ h5_ => ?_
    refine WC.region ?_
    refine RG.op _ _ rfl rfl (o_load_ptr_L (xs := [_, _]) rfl Try.underlying36 rfl (sz_of Ty.inf36) rfl rfl rfl rfl) ?_
    refine RG.op _ _ rfl rfl (o_store (d := (.agg [_, _])) rfl rfl rfl rfl (sz_of Ty.inf36) (Nat.le_of_ble_eq_true rfl) rfl) ?_
    refine RG.nil (h5_ _ ?_)
    refine WC.ret ?_
    exact Ends.r1 rfl (.agg rfl Try.underlying36 rfl (sz_of Ty.inf36) rfl rfl rfl) (.pure' (by exact pu_of rfl)) (good_f c1)
def hasB (a b t : Int) : Bool := decide (a ≤ t) && decide (t < b)
set_option maxHeartbeats 4000000 in
theorem has_c (a b t : Int) : Fun Try.prog 27 [SP a b, I64 t] (· = Bo (hasB a b t)) := by
  refine Fun.of Try.func27 rfl (Nat.le_of_ble_eq_true rfl) fun C => ?_
  refine WC.seq fun Fh1_ h1_ => ?_
  refine WC.region ?_
  refine RG.op _ _ rfl rfl (o_box (d := .agg [_, _]) rfl rfl) ?_
  refine RG.op _ _ rfl rfl (o_assign (.v _) rfl) ?_
  refine RG.nil (h1_ _ ?_)
  refine WC.seq fun Fh2_ h2_ => ?_
  refine WC.region ?_
  refine RG.op _ _ rfl rfl (o_fld_ptr rfl Try.underlying36 rfl (sz_of Ty.inf2) (by decide)) ?_
  refine RG.op _ _ rfl rfl (o_load_ptr rfl Try.underlying2 rfl rfl rfl rfl) ?_
  refine RG.op _ _ rfl rfl (o_move (.v _) rfl) ?_
  refine RG.op _ _ rfl rfl (o_leI rfl rfl) ?_
  refine RG.op _ _ rfl rfl (o_move (.v _) rfl) ?_
  refine RG.opg1 _ _ _ _ _ rfl rfl rfl rfl rfl (fun hb => o_move (.v _) rfl) ?_
  refine RG.opg1 _ _ _ _ _ rfl rfl rfl rfl rfl (fun hb => o_fld_ptr rfl Try.underlying36 rfl (sz_of Ty.inf2) (by decide)) ?_
  refine RG.opg1 _ _ _ _ _ rfl rfl rfl rfl rfl (fun hb => o_load_ptr (gdT hb) Try.underlying2 rfl rfl rfl rfl) ?_
  refine RG.opg1 _ _ _ _ _ rfl rfl rfl rfl rfl (fun hb => o_ltI (gdT hb) (gdT hb)) ?_
  refine RG.op _ _ rfl rfl (o_and _ _ rfl rfl rfl) ?_
  refine RG.op _ _ rfl rfl (o_assign (.v _) rfl) ?_
  refine RG.nil (h2_ _ ?_)
  refine WC.ret ?_
  exact Ends.r1 rfl (.tmp _ (.v _) rfl) (.v _) (rfl)
/-! ### The buckets -/
def floorE (t n : Int) : Int := if wrongE n [t] = 0 then floorZ t n else 0
def ceilE (t n : Int) : Int := if wrongE n [t] = 0 then ceilZ t n else 0
def buckE (t n : Int) : Int := if wrongE n [t] = 0 then floorZ t n + n else 0
set_option maxHeartbeats 4000000 in
theorem Floor_c (t n : Int) : Fun Try.prog 33 [I64 t, I64 n] (· = .tup [I64 (floorE t n), I64 (wrongE n [t])]) := by
  refine Fun.of Try.func33 rfl (Nat.le_of_ble_eq_true rfl) fun C => ?_
  refine WC.seq fun Fh1_ h1_ => ?_
  refine WC.region ?_
  refine RG.op _ _ rfl rfl (o_assign (.v _) rfl) ?_
  refine RG.op _ _ rfl rfl (o_assign (.v _) rfl) ?_
  refine RG.nil (h1_ _ ?_)
  refine WC.seq fun Fh2_ h2_ => ?_
  refine WC.seq fun Fh3_ h3_ => ?_
  refine WC.region ?_
  refine RG.op _ _ rfl rfl (o_move (.v _) rfl) ?_
  refine RG.op _ _ rfl rfl (o_move (.v _) rfl) ?_
  refine RG.op _ _ rfl rfl (o_litP (cs := [(.v _)]) Try.underlying67 Ty.inf2 rfl rfl rfl rfl (by repeat (first | exact pu_bytes _ | exact pu_nil | exact pu_vs rfl | exact pu_map (fun _ => .v _) _ | exact pu_vals _ | refine pu_app ?_ ?_ | refine pu_cons (by exact pu_of rfl) ?_))) ?_
  first | refine RG.op _ _ rfl rfl (o_call Ty.cal55 (check_c _ _ (by first | omega | exact ubyte _ | (simp only [LS] <;> omega))) ⟨.inl rfl, .inl rfl, trivial⟩ (by exact pua rfl)) ?_ | refine RG.op _ _ rfl rfl (o_call Ty.cal55 (check_c _ [_] (by first | omega | exact ubyte _ | (simp only [LS] <;> omega))) ⟨.inl rfl, .inl rfl, trivial⟩ (by exact pua rfl)) ?_ | refine RG.op _ _ rfl rfl (o_call Ty.cal55 (check_c _ [_, _] (by first | omega | exact ubyte _ | (simp only [LS] <;> omega))) ⟨.inl rfl, .inl rfl, trivial⟩ (by exact pua rfl)) ?_
  refine RG.op _ _ rfl rfl (o_assign (.v _) rfl) ?_
  refine RG.nil (h3_ _ ?_)
  refine WC.seq fun Fh4_ h4_ => ?_
  refine WC.region ?_
  refine RG.op _ _ rfl rfl (o_move (.v _) rfl) ?_
  refine RG.op _ _ rfl rfl (o_neI rfl rfl) ?_
  refine RG.nil (h4_ _ ?_)
  refine WC.cond _ rfl (fun c2 => ?_) (fun c2 => ?_)
  ·
    have p2 := c2
    try simp only [CN] at p2
    refine WC.seq fun Fh5_ h5_ => ?_
    refine WC.region ?_
    refine RG.op _ _ rfl rfl (o_move (.v _) rfl) ?_
    refine RG.op _ _ rfl rfl (o_assign (.v _) rfl) ?_
    refine RG.op _ _ rfl rfl (o_assign (.v _) rfl) ?_
    refine RG.nil (h5_ _ ?_)
    refine WC.ret ?_
    exact Ends.r2 rfl (.tmp _ (.v _) rfl) (.tmp _ (.v _) rfl) (.v _) (.v _) (by unfold floorE; rw [if_neg p2])
  ·
    have p2 := c2
    try simp only [CN] at p2
    have hw := wrong_ok p2
    have hwid := hw.1
    have hfit := hw.2 t (by simp)
    refine WC.skip (h2_ _ ?_)
    refine WC.seq fun Fh6_ h6_ => ?_
    refine WC.region ?_
    refine RG.op _ _ rfl rfl (o_move (.v _) rfl) ?_
    refine RG.op _ _ rfl rfl (o_move (.v _) rfl) ?_
    refine RG.op _ _ rfl rfl (o_call Ty.cal56 (floor_c _ _ (by assumption) (by assumption)) ⟨.inl rfl, .inl rfl, trivial⟩ (by exact pua rfl)) ?_
    refine RG.op _ _ rfl rfl (o_assign (.v _) rfl) ?_
    refine RG.op _ _ rfl rfl (o_assign (.v _) rfl) ?_
    refine RG.nil (h6_ _ ?_)
    refine WC.ret ?_
    exact Ends.r2 rfl (.tmp _ (.v _) rfl) (.tmp _ (.v _) rfl) (.v _) (.v _) (by unfold floorE; rw [if_pos p2, p2])
set_option maxHeartbeats 4000000 in
theorem Ceil_c (t n : Int) : Fun Try.prog 34 [I64 t, I64 n] (· = .tup [I64 (ceilE t n), I64 (wrongE n [t])]) := by
  refine Fun.of Try.func34 rfl (Nat.le_of_ble_eq_true rfl) fun C => ?_
  refine WC.seq fun Fh1_ h1_ => ?_
  refine WC.region ?_
  refine RG.op _ _ rfl rfl (o_assign (.v _) rfl) ?_
  refine RG.op _ _ rfl rfl (o_assign (.v _) rfl) ?_
  refine RG.nil (h1_ _ ?_)
  refine WC.seq fun Fh2_ h2_ => ?_
  refine WC.seq fun Fh3_ h3_ => ?_
  refine WC.region ?_
  refine RG.op _ _ rfl rfl (o_move (.v _) rfl) ?_
  refine RG.op _ _ rfl rfl (o_move (.v _) rfl) ?_
  refine RG.op _ _ rfl rfl (o_litP (cs := [(.v _)]) Try.underlying67 Ty.inf2 rfl rfl rfl rfl (by repeat (first | exact pu_bytes _ | exact pu_nil | exact pu_vs rfl | exact pu_map (fun _ => .v _) _ | exact pu_vals _ | refine pu_app ?_ ?_ | refine pu_cons (by exact pu_of rfl) ?_))) ?_
  first | refine RG.op _ _ rfl rfl (o_call Ty.cal55 (check_c _ _ (by first | omega | exact ubyte _ | (simp only [LS] <;> omega))) ⟨.inl rfl, .inl rfl, trivial⟩ (by exact pua rfl)) ?_ | refine RG.op _ _ rfl rfl (o_call Ty.cal55 (check_c _ [_] (by first | omega | exact ubyte _ | (simp only [LS] <;> omega))) ⟨.inl rfl, .inl rfl, trivial⟩ (by exact pua rfl)) ?_ | refine RG.op _ _ rfl rfl (o_call Ty.cal55 (check_c _ [_, _] (by first | omega | exact ubyte _ | (simp only [LS] <;> omega))) ⟨.inl rfl, .inl rfl, trivial⟩ (by exact pua rfl)) ?_
  refine RG.op _ _ rfl rfl (o_assign (.v _) rfl) ?_
  refine RG.nil (h3_ _ ?_)
  refine WC.seq fun Fh4_ h4_ => ?_
  refine WC.region ?_
  refine RG.op _ _ rfl rfl (o_move (.v _) rfl) ?_
  refine RG.op _ _ rfl rfl (o_neI rfl rfl) ?_
  refine RG.nil (h4_ _ ?_)
  refine WC.cond _ rfl (fun c2 => ?_) (fun c2 => ?_)
  ·
    have p2 := c2
    try simp only [CN] at p2
    refine WC.seq fun Fh5_ h5_ => ?_
    refine WC.region ?_
    refine RG.op _ _ rfl rfl (o_move (.v _) rfl) ?_
    refine RG.op _ _ rfl rfl (o_assign (.v _) rfl) ?_
    refine RG.op _ _ rfl rfl (o_assign (.v _) rfl) ?_
    refine RG.nil (h5_ _ ?_)
    refine WC.ret ?_
    exact Ends.r2 rfl (.tmp _ (.v _) rfl) (.tmp _ (.v _) rfl) (.v _) (.v _) (by unfold ceilE; rw [if_neg p2])
  ·
    have p2 := c2
    try simp only [CN] at p2
    have hw := wrong_ok p2
    have hwid := hw.1
    have hfit := hw.2 t (by simp)
    refine WC.skip (h2_ _ ?_)
    refine WC.seq fun Fh6_ h6_ => ?_
    refine WC.region ?_
    refine RG.op _ _ rfl rfl (o_move (.v _) rfl) ?_
    refine RG.op _ _ rfl rfl (o_move (.v _) rfl) ?_
    refine RG.op _ _ rfl rfl (o_call Ty.cal57 (ceil_c _ _ (by assumption) (by assumption)) ⟨.inl rfl, .inl rfl, trivial⟩ (by exact pua rfl)) ?_
    refine RG.op _ _ rfl rfl (o_assign (.v _) rfl) ?_
    refine RG.op _ _ rfl rfl (o_assign (.v _) rfl) ?_
    refine RG.nil (h6_ _ ?_)
    refine WC.ret ?_
    exact Ends.r2 rfl (.tmp _ (.v _) rfl) (.tmp _ (.v _) rfl) (.v _) (.v _) (by unfold ceilE; rw [if_pos p2, p2])
set_option maxHeartbeats 4000000 in
theorem Bucket_c (t n : Int) : Fun Try.prog 32 [I64 t, I64 n] (· = .tup [SP (floorE t n) (buckE t n), I64 (wrongE n [t])]) := by
  refine Fun.of Try.func32 rfl (Nat.le_of_ble_eq_true rfl) fun C => ?_
  refine WC.seq fun Fh1_ h1_ => ?_
  refine WC.region ?_
  refine RG.op _ _ rfl rfl (o_alloc (z_of Ty.inf36) rfl) ?_
  refine RG.op _ _ rfl rfl (o_assign (.v _) rfl) ?_
  refine RG.nil (h1_ _ ?_)
  refine WC.seq fun Fh2_ h2_ => ?_
  refine WC.seq fun Fh3_ h3_ => ?_
  refine WC.region ?_
  refine RG.op _ _ rfl rfl (o_move (.v _) rfl) ?_
  refine RG.op _ _ rfl rfl (o_move (.v _) rfl) ?_
  refine RG.op _ _ rfl rfl (o_litP (cs := [(.v _)]) Try.underlying67 Ty.inf2 rfl rfl rfl rfl (by repeat (first | exact pu_bytes _ | exact pu_nil | exact pu_vs rfl | exact pu_map (fun _ => .v _) _ | exact pu_vals _ | refine pu_app ?_ ?_ | refine pu_cons (by exact pu_of rfl) ?_))) ?_
  first | refine RG.op _ _ rfl rfl (o_call Ty.cal55 (check_c _ _ (by first | omega | exact ubyte _ | (simp only [LS] <;> omega))) ⟨.inl rfl, .inl rfl, trivial⟩ (by exact pua rfl)) ?_ | refine RG.op _ _ rfl rfl (o_call Ty.cal55 (check_c _ [_] (by first | omega | exact ubyte _ | (simp only [LS] <;> omega))) ⟨.inl rfl, .inl rfl, trivial⟩ (by exact pua rfl)) ?_ | refine RG.op _ _ rfl rfl (o_call Ty.cal55 (check_c _ [_, _] (by first | omega | exact ubyte _ | (simp only [LS] <;> omega))) ⟨.inl rfl, .inl rfl, trivial⟩ (by exact pua rfl)) ?_
  refine RG.op _ _ rfl rfl (o_assign (.v _) rfl) ?_
  refine RG.nil (h3_ _ ?_)
  refine WC.seq fun Fh4_ h4_ => ?_
  refine WC.region ?_
  refine RG.op _ _ rfl rfl (o_move (.v _) rfl) ?_
  refine RG.op _ _ rfl rfl (o_neI rfl rfl) ?_
  refine RG.nil (h4_ _ ?_)
  refine WC.cond _ rfl (fun c2 => ?_) (fun c2 => ?_)
  ·
    have p2 := c2
    try simp only [CN] at p2
    refine WC.seq fun Fh5_ h5_ => ?_
    refine WC.region ?_
    refine RG.op _ _ rfl rfl (o_build (cs := [I64 0, I64 0]) Try.underlying36 Ty.inf36 (Ty.pl36 Try.underlying36) rfl) ?_
    refine RG.op _ _ rfl rfl (o_move (.v _) rfl) ?_
    refine RG.op _ _ rfl rfl (o_store (d := (.agg [_, _])) rfl rfl rfl rfl (sz_of Ty.inf36) (Nat.le_of_ble_eq_true rfl) rfl) ?_
    refine RG.op _ _ rfl rfl (o_assign (.v _) rfl) ?_
    refine RG.nil (h5_ _ ?_)
    refine WC.ret ?_
    exact Ends.r2 rfl (.agg rfl Try.underlying36 rfl (sz_of Ty.inf36) rfl rfl rfl) (.tmp _ (.v _) rfl) (.pure' (by exact pu_of rfl)) (.v _) (show D.tup [SP 0 0, I64 (wrongE n [t])] = _ by unfold floorE buckE; rw [if_neg p2, if_neg p2])
  ·
    have p2 := c2
    try simp only [CN] at p2
    have hw := wrong_ok p2
    have hwid := hw.1
    have hfit := hw.2 t (by simp)
    have hw1 := hwid.1
    have hw2 := hwid.2
    have hf1 := hfit.1
    have hf2 := hfit.2
    have fl := floorZ_le (t := t) hwid.1
    refine WC.skip (h2_ _ ?_)
    refine WC.seq fun Fh6_ h6_ => ?_
    refine WC.region ?_
    refine RG.op _ _ rfl rfl (o_move (.v _) rfl) ?_
    refine RG.op _ _ rfl rfl (o_move (.v _) rfl) ?_
    refine RG.op _ _ rfl rfl (o_call Ty.cal56 (floor_c _ _ (by assumption) (by assumption)) ⟨.inl rfl, .inl rfl, trivial⟩ (by exact pua rfl)) ?_
    refine RG.op _ _ rfl rfl (o_assign (.v _) rfl) ?_
    refine RG.nil (h6_ _ ?_)
    refine WC.seq fun Fh7_ h7_ => ?_
    refine WC.region ?_
    refine RG.op _ _ rfl rfl (o_move (.v _) rfl) ?_
    refine RG.op _ _ rfl rfl (o_move (.v _) rfl) ?_
    refine RG.op _ _ rfl rfl (o_move (.v _) rfl) ?_
    refine RG.op _ _ rfl rfl (o_add rfl rfl (by first | omega | exact ubyte _ | (simp only [LS] <;> omega)) (by first | omega | exact ubyte _ | (simp only [LS] <;> omega))) ?_
    refine RG.op _ _ rfl rfl (o_build (cs := [(.v _), (.v _)]) Try.underlying36 Ty.inf36 (Ty.pl36 Try.underlying36) rfl) ?_
    refine RG.op _ _ rfl rfl (o_store (d := (.agg [_, _])) rfl rfl rfl rfl (sz_of Ty.inf36) (Nat.le_of_ble_eq_true rfl) rfl) ?_
    refine RG.op _ _ rfl rfl (o_assign (.v _) rfl) ?_
    refine RG.nil (h7_ _ ?_)
    refine WC.ret ?_
    exact Ends.r2 rfl (.agg rfl Try.underlying36 rfl (sz_of Ty.inf36) rfl rfl rfl) (.tmp _ (.v _) rfl) (.pure' (by exact pu_of rfl)) (.v _) (show D.tup [SP (floorZ t n) (floorZ t n + n), I64 0] = _ by unfold floorE buckE; rw [if_pos p2, if_pos p2, p2])
end Go.Proofs.Ytoekdjdgeleelaa
namespace Go.Proofs.Ytoekdjdgeleelaa
open Go.RowKit Go.DL

abbrev fnV (F : FuncId) : D := .v (.func (.func F) #[] #[])
set_option maxHeartbeats 4000000 in
theorem end_c {F : FuncId} {t n z : Int} (hF : DL.Callee Try.prog F) (h : Fun Try.prog F [I64 t, I64 n] (· = I64 z)) : Fun Try.prog 71 [fnV F, I64 t, .adr [I64 n]] (· = I64 z) := by
  refine Fun.of Try.func71 rfl (Nat.le_of_ble_eq_true rfl) fun C => ?_
  refine WC.seq fun Fh1_ h1_ => ?_
  refine WC.region ?_
  refine RG.op _ _ rfl rfl (o_assign (.v _) rfl) ?_
  refine RG.nil (h1_ _ ?_)
  refine WC.seq fun Fh2_ h2_ => ?_
  refine WC.region ?_
  refine RG.op _ _ rfl rfl (o_move (.v _) rfl) ?_
  refine RG.op _ _ rfl rfl (o_move (.v _) rfl) ?_
  refine RG.op _ _ rfl rfl (o_load_adr rfl Try.underlying2 rfl rfl) ?_
  refine RG.op _ _ rfl rfl (o_callV (ds := [I64 t, I64 n]) (cs := []) (.inr ⟨rfl, rfl⟩) hF h ⟨.inl rfl, .inl rfl, trivial⟩ (by exact pua rfl)) ?_
  refine RG.op _ _ rfl rfl (o_assign (.v _) rfl) ?_
  refine RG.nil (h2_ _ ?_)
  refine WC.ret ?_
  exact Ends.r1 rfl (.tmp _ (.v _) rfl) (.v _) (rfl)
def whA (z1 z2 : Int → Int → Int) (a b n : Int) : Int := bif emptyB a b then 0 else gA (z1 a n) (z2 b n)
def whB (z1 z2 : Int → Int → Int) (a b n : Int) : Int := bif emptyB a b then 0 else gB (z1 a n) (z2 b n)
def whEA (z1 z2 : Int → Int → Int) (a b n : Int) : Int := if wrongE n [a, b] = 0 then whA z1 z2 a b n else 0
def whEB (z1 z2 : Int → Int → Int) (a b n : Int) : Int := if wrongE n [a, b] = 0 then whB z1 z2 a b n else 0
set_option maxHeartbeats 4000000 in
theorem whole_c {G1 G2 : FuncId} (z1 z2 : Int → Int → Int) (a b n : Int) (hG1 : DL.Callee Try.prog G1) (hG2 : DL.Callee Try.prog G2) (q1 : Fit a → Wid n → Fun Try.prog G1 [I64 a, I64 n] (· = I64 (z1 a n))) (q2 : Fit b → Wid n → Fun Try.prog G2 [I64 b, I64 n] (· = I64 (z2 b n))) :
    Fun Try.prog 58 [SP a b, I64 n, fnV G1, fnV G2] (· = .tup [SP (whEA z1 z2 a b n) (whEB z1 z2 a b n), I64 (wrongE n [a, b])]) := by
  refine Fun.of Try.func58 rfl (Nat.le_of_ble_eq_true rfl) fun C => ?_
  refine WC.seq fun Fh1_ h1_ => ?_
  refine WC.region ?_
  refine RG.op _ _ rfl rfl (o_box (d := .agg [_, _]) rfl rfl) ?_
  refine RG.op _ _ rfl rfl (o_box (d := .v _) rfl rfl) ?_
  refine RG.op _ _ rfl rfl (o_alloc (z_of Ty.inf36) rfl) ?_
  refine RG.op _ _ rfl rfl (o_assign (.v _) rfl) ?_
  refine RG.nil (h1_ _ ?_)
  refine WC.seq fun Fh2_ h2_ => ?_
  refine WC.seq fun Fh3_ h3_ => ?_
  refine WC.region ?_
  refine RG.op _ _ rfl rfl (o_load_ptr rfl Try.underlying2 rfl rfl rfl rfl) ?_
  refine RG.op _ _ rfl rfl (o_fld_ptr rfl Try.underlying36 rfl (sz_of Ty.inf2) (by decide)) ?_
  refine RG.op _ _ rfl rfl (o_load_ptr rfl Try.underlying2 rfl rfl rfl rfl) ?_
  refine RG.op _ _ rfl rfl (o_fld_ptr rfl Try.underlying36 rfl (sz_of Ty.inf2) (by decide)) ?_
  refine RG.op _ _ rfl rfl (o_load_ptr rfl Try.underlying2 rfl rfl rfl rfl) ?_
  refine RG.op _ _ rfl rfl (o_litP (cs := [(.v _), (.v _)]) Try.underlying67 Ty.inf2 rfl rfl rfl rfl (by repeat (first | exact pu_bytes _ | exact pu_nil | exact pu_vs rfl | exact pu_map (fun _ => .v _) _ | exact pu_vals _ | refine pu_app ?_ ?_ | refine pu_cons (by exact pu_of rfl) ?_))) ?_
  first | refine RG.op _ _ rfl rfl (o_call Ty.cal55 (check_c _ _ (by first | omega | exact ubyte _ | (simp only [LS] <;> omega))) ⟨.inl rfl, .inl rfl, trivial⟩ (by exact pua rfl)) ?_ | refine RG.op _ _ rfl rfl (o_call Ty.cal55 (check_c _ [_] (by first | omega | exact ubyte _ | (simp only [LS] <;> omega))) ⟨.inl rfl, .inl rfl, trivial⟩ (by exact pua rfl)) ?_ | refine RG.op _ _ rfl rfl (o_call Ty.cal55 (check_c _ [_, _] (by first | omega | exact ubyte _ | (simp only [LS] <;> omega))) ⟨.inl rfl, .inl rfl, trivial⟩ (by exact pua rfl)) ?_
  refine RG.op _ _ rfl rfl (o_assign (.v _) rfl) ?_
  refine RG.nil (h3_ _ ?_)
  refine WC.seq fun Fh4_ h4_ => ?_
  refine WC.region ?_
  refine RG.op _ _ rfl rfl (o_move (.v _) rfl) ?_
  refine RG.op _ _ rfl rfl (o_neI rfl rfl) ?_
  refine RG.nil (h4_ _ ?_)
  refine WC.cond _ rfl (fun c2 => ?_) (fun c2 => ?_)
  ·
    have p2 := c2
    try simp only [CN] at p2
    refine WC.seq fun Fh5_ h5_ => ?_
    refine WC.region ?_
    refine RG.op _ _ rfl rfl (o_build (cs := [I64 0, I64 0]) Try.underlying36 Ty.inf36 (Ty.pl36 Try.underlying36) rfl) ?_
    refine RG.op _ _ rfl rfl (o_move (.v _) rfl) ?_
    refine RG.op _ _ rfl rfl (o_store (d := (.agg [_, _])) rfl rfl rfl rfl (sz_of Ty.inf36) (Nat.le_of_ble_eq_true rfl) rfl) ?_
    refine RG.op _ _ rfl rfl (o_assign (.v _) rfl) ?_
    refine RG.nil (h5_ _ ?_)
    refine WC.ret ?_
    exact Ends.r2 rfl (.agg rfl Try.underlying36 rfl (sz_of Ty.inf36) rfl rfl rfl) (.tmp _ (.v _) rfl) (.pure' (by exact pu_of rfl)) (.v _) (show D.tup [SP 0 0, I64 (wrongE n [a, b])] = _ by unfold whEA whEB; rw [if_neg p2, if_neg p2])
  ·
    have p2 := c2
    try simp only [CN] at p2
    have hw := wrong_ok p2
    have hwid := hw.1
    have hfa := hw.2 a (by simp)
    have hfb := hw.2 b (by simp)
    refine WC.skip (h2_ _ ?_)
    refine WC.seq fun Fh6_ h6_ => ?_
    refine WC.seq fun Fh7_ h7_ => ?_
    refine WC.region ?_
    refine RG.op _ _ rfl rfl (o_load_ptr_L (xs := [_, _]) rfl Try.underlying36 rfl (sz_of Ty.inf36) rfl rfl rfl rfl) ?_
    refine RG.op _ _ rfl rfl (o_call Ty.cal42 (empty_c _ _) ⟨.inl rfl, trivial⟩ (by exact pua rfl)) ?_
    refine RG.nil (h7_ _ ?_)
    refine WC.cond _ rfl (fun c4 => ?_) (fun c4 => ?_)
    ·
      have p4 := c4
      try simp only [CN] at p4
      refine WC.seq fun Fh8_ h8_ => ?_
      refine WC.region ?_
      refine RG.op _ _ rfl rfl (o_build (cs := [I64 0, I64 0]) Try.underlying36 Ty.inf36 (Ty.pl36 Try.underlying36) rfl) ?_
      refine RG.op _ _ rfl rfl (o_store (d := (.agg [_, _])) rfl rfl rfl rfl (sz_of Ty.inf36) (Nat.le_of_ble_eq_true rfl) rfl) ?_
      refine RG.op _ _ rfl rfl (o_assign (.v _) rfl) ?_
      refine RG.nil (h8_ _ ?_)
      refine WC.ret ?_
      exact Ends.r2 rfl (.agg rfl Try.underlying36 rfl (sz_of Ty.inf36) rfl rfl rfl) (.tmp _ (.v _) rfl) (.pure' (by exact pu_of rfl)) (.v _) (show D.tup [SP 0 0, I64 0] = _ by unfold whEA whEB whA whB; rw [if_pos p2, if_pos p2, p2, c4]; rfl)
    ·
      have p4 := c4
      try simp only [CN] at p4
      refine WC.skip (h6_ _ ?_)
      refine WC.seq fun Fh9_ h9_ => ?_
      refine WC.frz 1 _ [(5, .adr [I64 n])] rfl (by repeat (first | exact pu_bytes _ | exact pu_nil | exact pu_vs rfl | exact pu_map (fun _ => .v _) _ | exact pu_vals _ | refine pu_app ?_ ?_ | refine pu_cons (by exact pu_of rfl) ?_)) ⟨.ptr 0, trivial⟩ ?_
      refine WC.region ?_
      refine RG.op _ _ rfl rfl (o_makeFunc) ?_
      refine RG.op _ _ rfl rfl (o_assign (.fn _ _) rfl) ?_
      refine RG.nil (h9_ _ ?_)
      refine WC.seq fun Fh10_ h10_ => ?_
      refine WC.drawn3 (fun H => H[0]? = some (some ⟨[I64 a, I64 b], 36, false, 0⟩)) (by kernel_rfl) (rfl) ?_
      refine PG.op _ rfl rfl rfl (fun _ hH => o_move (.fn _ _) rfl) ?_
      refine PG.op _ rfl rfl rfl (fun _ hH => o_move (.v _) rfl) ?_
      refine PG.op _ rfl rfl rfl (fun _ hH => o_fld_ptr rfl Try.underlying36 rfl (sz_of Ty.inf2) (by decide)) ?_
      refine PG.op _ rfl rfl rfl (fun _ hH => o_load_ptr rfl Try.underlying2 rfl hH rfl rfl) ?_
      refine PG.op _ rfl rfl rfl (fun _ hH => o_callV (ds := [fnV G1, I64 a]) (cs := [.adr [I64 n]]) (.inl rfl) Ty.cal71 (end_c hG1 (q1 hfa hwid)) ⟨.inl rfl, .inl rfl, trivial⟩ (by exact pua rfl)) ?_
      refine PG.op _ rfl rfl rfl (fun _ hH => o_move (.fn _ _) rfl) ?_
      refine PG.op _ rfl rfl rfl (fun _ hH => o_move (.v _) rfl) ?_
      refine PG.op _ rfl rfl rfl (fun _ hH => o_fld_ptr rfl Try.underlying36 rfl (sz_of Ty.inf2) (by decide)) ?_
      refine PG.op _ rfl rfl rfl (fun _ hH => o_load_ptr rfl Try.underlying2 rfl hH rfl rfl) ?_
      refine PG.op _ rfl rfl rfl (fun _ hH => o_callV (ds := [fnV G2, I64 b]) (cs := [.adr [I64 n]]) (.inl rfl) Ty.cal71 (end_c hG2 (q2 hfb hwid)) ⟨.inl rfl, .inl rfl, trivial⟩ (by exact pua rfl)) ?_
      refine PG.op _ rfl rfl rfl (fun _ hH => o_build (cs := [(.v _), (.v _)]) Try.underlying36 Ty.inf36 (Ty.pl36 Try.underlying36) rfl) ?_
      refine PG.op _ rfl rfl rfl (fun _ hH => o_call Ty.cal72 (orZero_c _ _) ⟨.inl rfl, trivial⟩ (by exact pua rfl)) ?_
      refine PG.opm _ _ rfl rfl rfl (o_store (d := (.agg [_, _])) rfl rfl rfl rfl (sz_of Ty.inf36) (Nat.le_of_ble_eq_true rfl) rfl) ?_
      refine PG.op _ rfl rfl rfl (fun _ hH => o_assign (.v _) rfl) ?_
      refine PG.nil ⟨by kernel_rfl, List.forall_mem_cons.2 ⟨noHs rfl, List.forall_mem_cons.2 ⟨noHs rfl, List.forall_mem_cons.2 ⟨noHs rfl, List.forall_mem_cons.2 ⟨noHs rfl, List.forall_mem_cons.2 ⟨noHs rfl, List.forall_mem_cons.2 ⟨noHs rfl, List.forall_mem_cons.2 ⟨noHs rfl, List.forall_mem_cons.2 ⟨noHs rfl, List.forall_mem_cons.2 ⟨noHs rfl, List.forall_mem_cons.2 ⟨noHs rfl, List.forall_mem_cons.2 ⟨noHs rfl, List.forall_mem_cons.2 ⟨noHs rfl, List.forall_mem_cons.2 ⟨fun _ => rfl, List.forall_mem_cons.2 ⟨noHs rfl, List.forall_mem_nil _⟩⟩⟩⟩⟩⟩⟩⟩⟩⟩⟩⟩⟩⟩, (h10_ _ ?_)⟩
      refine WC.ret ?_
      exact Ends.r2 rfl (.agg rfl Try.underlying36 rfl (sz_of Ty.inf36) rfl rfl rfl) (.tmp _ (.v _) rfl) (.pure' (by exact pu_of rfl)) (.v _) (show D.tup [goodD (z1 a n) (z2 b n), I64 0] = _ by unfold whEA whEB whA whB; rw [if_pos p2, if_pos p2, p2, c4]; rfl)
set_option maxHeartbeats 4000000 in
theorem Out_c (a b n : Int) : Fun Try.prog 37 [SP a b, I64 n] (· = .tup [SP (whEA floorZ ceilZ a b n) (whEB floorZ ceilZ a b n), I64 (wrongE n [a, b])]) := by
  refine Fun.of Try.func37 rfl (Nat.le_of_ble_eq_true rfl) fun C => ?_
  refine WC.seq fun Fh1_ h1_ => ?_
  refine WC.region ?_
  refine RG.op _ _ rfl rfl (o_box (d := .agg [_, _]) rfl rfl) ?_
  refine RG.op _ _ rfl rfl (o_alloc (z_of Ty.inf36) rfl) ?_
  refine RG.op _ _ rfl rfl (o_assign (.v _) rfl) ?_
  refine RG.nil (h1_ _ ?_)
  refine WC.seq fun Fh2_ h2_ => ?_
  refine WC.region ?_
  refine RG.op _ _ rfl rfl (o_load_ptr_L (xs := [_, _]) rfl Try.underlying36 rfl (sz_of Ty.inf36) rfl rfl rfl rfl) ?_
  refine RG.op _ _ rfl rfl (o_move (.v _) rfl) ?_
  refine RG.op _ _ rfl rfl (o_call Ty.cal58 (whole_c floorZ ceilZ a b n Ty.cal56 Ty.cal57 (fun h w => floor_c _ _ h w) (fun h w => ceil_c _ _ h w)) ⟨.inl rfl, .inl rfl, .inl rfl, .inl rfl, trivial⟩ (by exact pua rfl)) ?_
  refine RG.op _ _ rfl rfl (o_extract rfl rfl) ?_
  refine RG.op _ _ rfl rfl (o_extract rfl rfl) ?_
  refine RG.op _ _ rfl rfl (o_store (d := (.agg [_, _])) rfl rfl rfl rfl (sz_of Ty.inf36) (Nat.le_of_ble_eq_true rfl) rfl) ?_
  refine RG.op _ _ rfl rfl (o_assign (.v _) rfl) ?_
  refine RG.nil (h2_ _ ?_)
  refine WC.ret ?_
  exact Ends.r2 rfl (.agg rfl Try.underlying36 rfl (sz_of Ty.inf36) rfl rfl rfl) (.tmp _ (.v _) rfl) (.pure' (by exact pu_of rfl)) (.v _) (rfl)
set_option maxHeartbeats 4000000 in
theorem In_c (a b n : Int) : Fun Try.prog 38 [SP a b, I64 n] (· = .tup [SP (whEA ceilZ floorZ a b n) (whEB ceilZ floorZ a b n), I64 (wrongE n [a, b])]) := by
  refine Fun.of Try.func38 rfl (Nat.le_of_ble_eq_true rfl) fun C => ?_
  refine WC.seq fun Fh1_ h1_ => ?_
  refine WC.region ?_
  refine RG.op _ _ rfl rfl (o_box (d := .agg [_, _]) rfl rfl) ?_
  refine RG.op _ _ rfl rfl (o_alloc (z_of Ty.inf36) rfl) ?_
  refine RG.op _ _ rfl rfl (o_assign (.v _) rfl) ?_
  refine RG.nil (h1_ _ ?_)
  refine WC.seq fun Fh2_ h2_ => ?_
  refine WC.region ?_
  refine RG.op _ _ rfl rfl (o_load_ptr_L (xs := [_, _]) rfl Try.underlying36 rfl (sz_of Ty.inf36) rfl rfl rfl rfl) ?_
  refine RG.op _ _ rfl rfl (o_move (.v _) rfl) ?_
  refine RG.op _ _ rfl rfl (o_call Ty.cal58 (whole_c ceilZ floorZ a b n Ty.cal57 Ty.cal56 (fun h w => ceil_c _ _ h w) (fun h w => floor_c _ _ h w)) ⟨.inl rfl, .inl rfl, .inl rfl, .inl rfl, trivial⟩ (by exact pua rfl)) ?_
  refine RG.op _ _ rfl rfl (o_extract rfl rfl) ?_
  refine RG.op _ _ rfl rfl (o_extract rfl rfl) ?_
  refine RG.op _ _ rfl rfl (o_store (d := (.agg [_, _])) rfl rfl rfl rfl (sz_of Ty.inf36) (Nat.le_of_ble_eq_true rfl) rfl) ?_
  refine RG.op _ _ rfl rfl (o_assign (.v _) rfl) ?_
  refine RG.nil (h2_ _ ?_)
  refine WC.ret ?_
  exact Ends.r2 rfl (.agg rfl Try.underlying36 rfl (sz_of Ty.inf36) rfl rfl rfl) (.tmp _ (.v _) rfl) (.pure' (by exact pu_of rfl)) (.v _) (rfl)
set_option maxHeartbeats 4000000 in
theorem rOut_c (a b n : Int) (hfa : Fit a) (hfb : Fit b) (hwid : Wid n) : Fun Try.prog 40 [SP a b, I64 n] (· = SP (whA floorZ ceilZ a b n) (whB floorZ ceilZ a b n)) := by
  refine Fun.of Try.func40 rfl (Nat.le_of_ble_eq_true rfl) fun C => ?_
  refine WC.seq fun Fh1_ h1_ => ?_
  refine WC.region ?_
  refine RG.op _ _ rfl rfl (o_box (d := .agg [_, _]) rfl rfl) ?_
  refine RG.op _ _ rfl rfl (o_alloc (z_of Ty.inf36) rfl) ?_
  refine RG.nil (h1_ _ ?_)
  refine WC.seq fun Fh2_ h2_ => ?_
  refine WC.seq fun Fh3_ h3_ => ?_
  refine WC.region ?_
  refine RG.op _ _ rfl rfl (o_fld_ptr rfl Try.underlying36 rfl (sz_of Ty.inf2) (by decide)) ?_
  refine RG.op _ _ rfl rfl (o_load_ptr rfl Try.underlying2 rfl rfl rfl rfl) ?_
  refine RG.op _ _ rfl rfl (o_fld_ptr rfl Try.underlying36 rfl (sz_of Ty.inf2) (by decide)) ?_
  refine RG.op _ _ rfl rfl (o_load_ptr rfl Try.underlying2 rfl rfl rfl rfl) ?_
  refine RG.op _ _ rfl rfl (o_leI rfl rfl) ?_
  refine RG.nil (h3_ _ ?_)
  refine WC.cond _ rfl (fun c1 => ?_) (fun c1 => ?_)
  ·
    have p1 := c1
    try simp only [CN] at p1
    refine WC.seq fun Fh4_ h4_ => ?_
    refine WC.region ?_
    refine RG.op _ _ rfl rfl (o_build (cs := [I64 0, I64 0]) Try.underlying36 Ty.inf36 (Ty.pl36 Try.underlying36) rfl) ?_
    refine RG.op _ _ rfl rfl (o_store (d := (.agg [_, _])) rfl rfl rfl rfl (sz_of Ty.inf36) (Nat.le_of_ble_eq_true rfl) rfl) ?_
    refine RG.nil (h4_ _ ?_)
    refine WC.ret ?_
    exact Ends.r1 rfl (.agg rfl Try.underlying36 rfl (sz_of Ty.inf36) rfl rfl rfl) (.pure' (by exact pu_of rfl)) (show SP 0 0 = _ by unfold whA whB; rw [show emptyB a b = true from c1]; rfl)
  ·
    have p1 := c1
    try simp only [CN] at p1
    refine WC.skip (h2_ _ ?_)
    refine WC.seq fun Fh5_ h5_ => ?_
    refine WC.drawn3 (fun H => H[0]? = some (some ⟨[I64 a, I64 b], 36, false, 0⟩)) (by kernel_rfl) (rfl) ?_
    refine PG.op _ rfl rfl rfl (fun _ hH => o_fld_ptr rfl Try.underlying36 rfl (sz_of Ty.inf2) (by decide)) ?_
    refine PG.op _ rfl rfl rfl (fun _ hH => o_load_ptr rfl Try.underlying2 rfl hH rfl rfl) ?_
    refine PG.op _ rfl rfl rfl (fun _ hH => o_move (.v _) rfl) ?_
    refine PG.op _ rfl rfl rfl (fun _ hH => o_call Ty.cal62 (rfloor_c _ _ (by assumption) (by assumption)) ⟨.inl rfl, .inl rfl, trivial⟩ (by exact pua rfl)) ?_
    refine PG.op _ rfl rfl rfl (fun _ hH => o_fld_ptr rfl Try.underlying36 rfl (sz_of Ty.inf2) (by decide)) ?_
    refine PG.op _ rfl rfl rfl (fun _ hH => o_load_ptr rfl Try.underlying2 rfl hH rfl rfl) ?_
    refine PG.op _ rfl rfl rfl (fun _ hH => o_move (.v _) rfl) ?_
    refine PG.op _ rfl rfl rfl (fun _ hH => o_call Ty.cal63 (rceil_c _ _ (by assumption) (by assumption)) ⟨.inl rfl, .inl rfl, trivial⟩ (by exact pua rfl)) ?_
    refine PG.op _ rfl rfl rfl (fun _ hH => o_call Ty.cal61 (good_c _ _) ⟨.inl rfl, .inl rfl, trivial⟩ (by exact pua rfl)) ?_
    refine PG.opm _ _ rfl rfl rfl (o_store (d := (.agg [_, _])) rfl rfl rfl rfl (sz_of Ty.inf36) (Nat.le_of_ble_eq_true rfl) rfl) ?_
    refine PG.nil ⟨by kernel_rfl, List.forall_mem_cons.2 ⟨noHs rfl, List.forall_mem_cons.2 ⟨noHs rfl, List.forall_mem_cons.2 ⟨noHs rfl, List.forall_mem_cons.2 ⟨noHs rfl, List.forall_mem_cons.2 ⟨noHs rfl, List.forall_mem_cons.2 ⟨noHs rfl, List.forall_mem_cons.2 ⟨noHs rfl, List.forall_mem_cons.2 ⟨noHs rfl, List.forall_mem_cons.2 ⟨noHs rfl, List.forall_mem_cons.2 ⟨fun _ => rfl, List.forall_mem_nil _⟩⟩⟩⟩⟩⟩⟩⟩⟩⟩, (h5_ _ ?_)⟩
    refine WC.ret ?_
    exact Ends.r1 rfl (.agg rfl Try.underlying36 rfl (sz_of Ty.inf36) rfl rfl rfl) (.pure' (by exact pu_of rfl)) (show goodD (floorZ a n) (ceilZ b n) = _ by unfold whA whB; rw [show emptyB a b = false from c1]; rfl)
set_option maxHeartbeats 4000000 in
theorem rIn_c (a b n : Int) (hfa : Fit a) (hfb : Fit b) (hwid : Wid n) : Fun Try.prog 41 [SP a b, I64 n] (· = SP (whA ceilZ floorZ a b n) (whB ceilZ floorZ a b n)) := by
  refine Fun.of Try.func41 rfl (Nat.le_of_ble_eq_true rfl) fun C => ?_
  refine WC.seq fun Fh1_ h1_ => ?_
  refine WC.region ?_
  refine RG.op _ _ rfl rfl (o_box (d := .agg [_, _]) rfl rfl) ?_
  refine RG.op _ _ rfl rfl (o_alloc (z_of Ty.inf36) rfl) ?_
  refine RG.nil (h1_ _ ?_)
  refine WC.seq fun Fh2_ h2_ => ?_
  refine WC.seq fun Fh3_ h3_ => ?_
  refine WC.region ?_
  refine RG.op _ _ rfl rfl (o_fld_ptr rfl Try.underlying36 rfl (sz_of Ty.inf2) (by decide)) ?_
  refine RG.op _ _ rfl rfl (o_load_ptr rfl Try.underlying2 rfl rfl rfl rfl) ?_
  refine RG.op _ _ rfl rfl (o_fld_ptr rfl Try.underlying36 rfl (sz_of Ty.inf2) (by decide)) ?_
  refine RG.op _ _ rfl rfl (o_load_ptr rfl Try.underlying2 rfl rfl rfl rfl) ?_
  refine RG.op _ _ rfl rfl (o_leI rfl rfl) ?_
  refine RG.nil (h3_ _ ?_)
  refine WC.cond _ rfl (fun c1 => ?_) (fun c1 => ?_)
  ·
    have p1 := c1
    try simp only [CN] at p1
    refine WC.seq fun Fh4_ h4_ => ?_
    refine WC.region ?_
    refine RG.op _ _ rfl rfl (o_build (cs := [I64 0, I64 0]) Try.underlying36 Ty.inf36 (Ty.pl36 Try.underlying36) rfl) ?_
    refine RG.op _ _ rfl rfl (o_store (d := (.agg [_, _])) rfl rfl rfl rfl (sz_of Ty.inf36) (Nat.le_of_ble_eq_true rfl) rfl) ?_
    refine RG.nil (h4_ _ ?_)
    refine WC.ret ?_
    exact Ends.r1 rfl (.agg rfl Try.underlying36 rfl (sz_of Ty.inf36) rfl rfl rfl) (.pure' (by exact pu_of rfl)) (show SP 0 0 = _ by unfold whA whB; rw [show emptyB a b = true from c1]; rfl)
  ·
    have p1 := c1
    try simp only [CN] at p1
    refine WC.skip (h2_ _ ?_)
    refine WC.seq fun Fh5_ h5_ => ?_
    refine WC.drawn3 (fun H => H[0]? = some (some ⟨[I64 a, I64 b], 36, false, 0⟩)) (by kernel_rfl) (rfl) ?_
    refine PG.op _ rfl rfl rfl (fun _ hH => o_fld_ptr rfl Try.underlying36 rfl (sz_of Ty.inf2) (by decide)) ?_
    refine PG.op _ rfl rfl rfl (fun _ hH => o_load_ptr rfl Try.underlying2 rfl hH rfl rfl) ?_
    refine PG.op _ rfl rfl rfl (fun _ hH => o_move (.v _) rfl) ?_
    refine PG.op _ rfl rfl rfl (fun _ hH => o_call Ty.cal63 (rceil_c _ _ (by assumption) (by assumption)) ⟨.inl rfl, .inl rfl, trivial⟩ (by exact pua rfl)) ?_
    refine PG.op _ rfl rfl rfl (fun _ hH => o_fld_ptr rfl Try.underlying36 rfl (sz_of Ty.inf2) (by decide)) ?_
    refine PG.op _ rfl rfl rfl (fun _ hH => o_load_ptr rfl Try.underlying2 rfl hH rfl rfl) ?_
    refine PG.op _ rfl rfl rfl (fun _ hH => o_move (.v _) rfl) ?_
    refine PG.op _ rfl rfl rfl (fun _ hH => o_call Ty.cal62 (rfloor_c _ _ (by assumption) (by assumption)) ⟨.inl rfl, .inl rfl, trivial⟩ (by exact pua rfl)) ?_
    refine PG.op _ rfl rfl rfl (fun _ hH => o_call Ty.cal61 (good_c _ _) ⟨.inl rfl, .inl rfl, trivial⟩ (by exact pua rfl)) ?_
    refine PG.opm _ _ rfl rfl rfl (o_store (d := (.agg [_, _])) rfl rfl rfl rfl (sz_of Ty.inf36) (Nat.le_of_ble_eq_true rfl) rfl) ?_
    refine PG.nil ⟨by kernel_rfl, List.forall_mem_cons.2 ⟨noHs rfl, List.forall_mem_cons.2 ⟨noHs rfl, List.forall_mem_cons.2 ⟨noHs rfl, List.forall_mem_cons.2 ⟨noHs rfl, List.forall_mem_cons.2 ⟨noHs rfl, List.forall_mem_cons.2 ⟨noHs rfl, List.forall_mem_cons.2 ⟨noHs rfl, List.forall_mem_cons.2 ⟨noHs rfl, List.forall_mem_cons.2 ⟨noHs rfl, List.forall_mem_cons.2 ⟨fun _ => rfl, List.forall_mem_nil _⟩⟩⟩⟩⟩⟩⟩⟩⟩⟩, (h5_ _ ?_)⟩
    refine WC.ret ?_
    exact Ends.r1 rfl (.agg rfl Try.underlying36 rfl (sz_of Ty.inf36) rfl rfl rfl) (.pure' (by exact pu_of rfl)) (show goodD (ceilZ a n) (floorZ b n) = _ by unfold whA whB; rw [show emptyB a b = false from c1]; rfl)
end Go.Proofs.Ytoekdjdgeleelaa
namespace Go.Proofs.Ytoekdjdgeleelaa
open Go.RowKit Go.DL

abbrev Sp := Int × Int
def pc (p : Sp) : List D := [I64 p.1, I64 p.2]
theorem pc_len (p : Sp) : (pc p).length = 2 := rfl
abbrev rdP (l : List Sp) : D := .rd l.length (l.flatMap pc)
def hasL (l : List Sp) (t : Int) : Bool := l.any fun p => decide (t ≥ p.1) && decide (t < p.2)
theorem getD_is {l : List Sp} {k : Nat} (h : k < l.length) : l.getD k (0, 0) = l[k] := by rw [List.getD_eq_getElem?_getD, List.getElem?_eq_getElem h]; rfl
theorem hasL_step {l : List Sp} {k : Nat} {t : Int} (h : k < l.length) (ha : hasL (l.take k) t = false) (hk : (decide (t ≥ l[k].1) && decide (t < (l.getD k (0, 0)).2)) = false) : hasL (l.take (k + 1)) t = false := by
  rw [getD_is h] at hk
  unfold hasL at *
  rw [List.take_succ_eq_append_getElem h, List.any_append, ha, List.any_cons, hk]; rfl
theorem hasL_stop {l : List Sp} {k : Nat} {t : Int} (h : k < l.length) (hk : (decide (t ≥ l[k].1) && decide (t < (l.getD k (0, 0)).2)) = true) : hasL l t = true := by
  rw [getD_is h] at hk
  unfold hasL; rw [List.any_eq_true]; exact ⟨l[k], List.getElem_mem h, hk⟩
/-- Does element i stand as_ in a list in form? -/
def okAt (l : List Sp) (i : Nat) : Bool := decide ((l.getD i (0, 0)).1 < (l.getD i (0, 0)).2) && (decide (i = 0) || decide ((l.getD (i - 1) (0, 0)).2 < (l.getD i (0, 0)).1))
def formB (l : List Sp) : Bool := decide (∀ i < l.length, okAt l i = true)
theorem okAt_of {l : List Sp} {k : Nat} (h : k < l.length) : okAt l k = !(decide (l[k].2 ≤ l[k].1) || decide ((k : Int) > 0) && decide ((l.getD k (0, 0)).1 ≤ (l.getD (k - 1) (0, 0)).2)) := by
  unfold okAt
  rw [getD_is h, Bool.eq_iff_iff]
  simp
set_option maxHeartbeats 4000000 in
theorem rhas_c (l : List Sp) (t : Int) (hl : l.length ≤ 1099511627776) : Fun Try.prog 25 [rdP l, I64 t] (· = Bo (hasL l t)) := by
  refine Fun.of Try.func25 rfl (Nat.le_of_ble_eq_true rfl) fun C => ?_
  refine WC.seq fun Fh1_ h1_ => ?_
  refine WC.region ?_
  refine RG.op _ _ rfl rfl (o_assign (.v _) rfl) ?_
  refine RG.nil (h1_ _ ?_)
  refine WC.seq fun Fh2_ h2_ => ?_
  refine WC.seq fun Fh3_ h3_ => ?_
  refine WC.region ?_
  refine RG.op _ _ rfl rfl (o_assign (.v _) rfl) ?_
  refine RG.nil (h3_ _ ?_)
  refine WC.block ?_
  refine WC.loopU [4, 5, 6, 7, 8, 9, 10, 11, 12, 13, 14, 15, 16, 17, 18, 19, 20, 21, 22, 23, 24, 25, 26, 27] (fun (k : Nat) => [(5, I64 ((k : Nat) : Int))]) (fun (k : Nat) => []) (fun (k : Nat) => k ≤ l.length ∧ hasL (l.take k) t = false) (fun (k : Nat) => l.length - k) 0 ⟨Nat.zero_le _, rfl⟩ ?lpa4_ ?lpb5_
  case lpa4_ =>
    exact .mk' ⟨⟨rfl, .v _⟩, trivial⟩ (same_refl _ _) (rfl) (by repeat (first | exact trivial | refine And.intro (Nat.le_refl _) ?_ | refine And.intro trivial ?_ | refine And.intro (by show _ ≤ _; (first | omega | (simp only [LS] <;> omega))) ?_)) (by repeat (first | exact trivial | refine And.intro (one_ok (.own _ _ _ _ _ (Nat.le_refl _))) ?_ | refine And.intro (okp (by repeat (first | exact pu_bytes _ | exact pu_nil | exact pu_vs rfl | exact pu_map (fun _ => .v _) _ | exact pu_vals _ | refine pu_app ?_ ?_ | refine pu_cons (by exact pu_of rfl) ?_))) ?_))
  case lpb5_ =>
    rintro k hI
    refine WC.seq fun Fh6_ h6_ => ?_
    refine WC.seq fun Fh7_ h7_ => ?_
    refine WC.region ?_
    refine RG.op _ _ rfl rfl (o_move (.v _) rfl) ?_
    refine RG.op _ _ rfl rfl (o_move (.rd _ _) rfl) ?_
    refine RG.op _ _ rfl rfl (o_len_rd rfl Try.underlying22) ?_
    refine RG.op _ _ rfl rfl (o_ltI rfl rfl) ?_
    refine RG.nil (h7_ _ ?_)
    refine WC.cond _ rfl (fun c2 => ?_) (fun c2 => ?_)
    ·
      have p2 := c2
      try simp only [CN] at p2
      have hkl : k < l.length := by omega
      refine WC.skip (h6_ _ ?_)
      refine WC.seq fun Fh8_ h8_ => ?_
      refine WC.block ?_
      refine WC.seq fun Fh9_ h9_ => ?_
      refine WC.region ?_
      refine RG.op _ _ rfl rfl (o_move (.v _) rfl) ?_
      refine RG.op _ _ rfl rfl (o_move (.rd _ _) rfl) ?_
      refine RG.op _ _ rfl rfl (o_move (.v _) rfl) ?_
      refine RG.op _ _ rfl rfl (o_ixn_L (l := l) (f := pc) k pc_len rfl rfl rfl Try.underlying22 (sz_of Ty.inf36) rfl hkl) ?_
      refine RG.op _ _ rfl rfl (o_fld_adr rfl Try.underlying36 rfl (sz_of Ty.inf2) (by decide)) ?_
      refine RG.op _ _ rfl rfl (o_load_adr rfl Try.underlying2 rfl rfl) ?_
      refine RG.op _ _ rfl rfl (o_geI rfl rfl) ?_
      refine RG.op _ _ rfl rfl (o_move (.v _) rfl) ?_
      refine RG.opg1 _ _ _ _ _ rfl rfl rfl rfl rfl (fun hb => o_move (.v _) rfl) ?_
      refine RG.opg1 _ _ _ _ _ rfl rfl rfl rfl rfl (fun hb => o_move (.rd _ _) rfl) ?_
      refine RG.opg1 _ _ _ _ _ rfl rfl rfl rfl rfl (fun hb => o_move (.v _) rfl) ?_
      refine RG.opg1 _ _ _ _ _ rfl rfl rfl rfl rfl (fun hb => (by exact o_ixn_LZ (l := l) (f := pc) (0, 0) k pc_len rfl (gdT hb) (gdT hb) Try.underlying22 (sz_of Ty.inf36) rfl hkl)) ?_
      refine RG.opg1 _ _ _ _ _ rfl rfl rfl rfl rfl (fun hb => o_fld_adr (gdT hb) Try.underlying36 rfl (sz_of Ty.inf2) (by decide)) ?_
      refine RG.opg1 _ _ _ _ _ rfl rfl rfl rfl rfl (fun hb => o_load_adr (gdT hb) Try.underlying2 rfl rfl) ?_
      refine RG.opg1 _ _ _ _ _ rfl rfl rfl rfl rfl (fun hb => o_ltI (gdT hb) (gdT hb)) ?_
      refine RG.op _ _ rfl rfl (o_and _ _ rfl rfl rfl) ?_
      refine RG.nil (h9_ _ ?_)
      refine WC.cond _ rfl (fun c4 => ?_) (fun c4 => ?_)
      ·
        have p4 := c4
        try simp only [CN] at p4
        refine WC.seq fun Fh10_ h10_ => ?_
        refine WC.region ?_
        refine RG.op _ _ rfl rfl (o_assign (.v _) rfl) ?_
        refine RG.nil (h10_ _ ?_)
        refine WC.ret ?_
        exact Ends.r1 rfl (.tmp _ (.v _) rfl) (.v _) (congrArg Bo (hasL_stop hkl c4).symm)
      ·
        have p4 := c4
        try simp only [CN] at p4
        refine WC.skip (h8_ _ ?_)
        refine WC.region ?_
        refine RG.op _ _ rfl rfl (o_move (.v _) rfl) ?_
        refine RG.op _ _ rfl rfl (o_add rfl rfl (by first | omega | exact ubyte _ | (simp only [LS] <;> omega)) (by first | omega | exact ubyte _ | (simp only [LS] <;> omega))) ?_
        refine RG.op _ _ rfl rfl (o_assign (.v _) rfl) ?_
        refine RG.nil (Exists.intro (k + 1) ⟨⟨by omega, hasL_step hkl hI.2 c4⟩, by first | omega | (simp only [LS] <;> omega), ?_⟩)
        exact .mk' ⟨⟨rfl, .v _⟩, trivial⟩ (by repeat (first | with_reducible exact same_refl _ _ | with_reducible refine same_updO (by with_unfolding_all exact rfl) ?_ | with_reducible refine same_updN ?_ | with_reducible refine same_updL (by with_unfolding_all exact rfl) ?_ | with_reducible refine same_forget (by with_unfolding_all exact rfl) ?_)) (rfl) (by repeat (first | exact trivial | refine And.intro (Nat.le_refl _) ?_ | refine And.intro trivial ?_ | refine And.intro (by show _ ≤ _; (first | omega | (simp only [LS] <;> omega))) ?_)) (by repeat (first | exact trivial | refine And.intro (one_ok (.own _ _ _ _ _ (Nat.le_refl _))) ?_ | refine And.intro (okp (by repeat (first | exact pu_bytes _ | exact pu_nil | exact pu_vs rfl | exact pu_map (fun _ => .v _) _ | exact pu_vals _ | refine pu_app ?_ ?_ | refine pu_cons (by exact pu_of rfl) ?_))) ?_))
    ·
      have p2 := c2
      try simp only [CN] at p2
      refine WC.exit (h2_ _ ?_)
      refine WC.seq fun Fh11_ h11_ => ?_
      refine WC.region ?_
      refine RG.op _ _ rfl rfl (o_assign (.v _) rfl) ?_
      refine RG.nil (h11_ _ ?_)
      refine WC.ret ?_
      exact Ends.r1 rfl (.tmp _ (.v _) rfl) (.v _) (congrArg Bo (by have h := hI.2; rw [List.take_of_length_le (by omega)] at h; exact h.symm))
theorem eqP_of (a b c d : Int) : eqDs [I64 a, I64 b] [I64 c, I64 d] = decide ((a, b) = (c, d)) := by
  rw [Bool.eq_iff_iff]
  simp only [eqDs, eq1, Bool.and_eq_true, beq_iff_eq, decide_eq_true_eq, Prod.mk.injEq, and_true]
theorem sp_step {a b : List Sp} {k : Nat} (ha : k < a.length) (hb : k < b.length) (h : a.take k = b.take k) (c : (!eqDs (pc a[k]) (pc b[k])) = false) : a.take (k + 1) = b.take (k + 1) := by
  have e : a[k] = b[k] := by
    have := eqP_of a[k].1 a[k].2 b[k].1 b[k].2
    unfold pc at c
    rw [this] at c
    simp at c
    exact Prod.ext c.1 c.2
  rw [List.take_succ_eq_append_getElem ha, List.take_succ_eq_append_getElem hb, h, e]
theorem sp_stop {a b : List Sp} {k : Nat} (ha : k < a.length) (hb : k < b.length) (c : (!eqDs (pc a[k]) (pc b[k])) = true) : decide (a = b) = false := by
  rw [decide_eq_false]
  intro e
  subst e
  have := eqP_of a[k].1 a[k].2 a[k].1 a[k].2
  unfold pc at c
  rw [this] at c
  simp at c
set_option maxHeartbeats 4000000 in
theorem rsame10_c (a b : List Sp) (ha : a.length ≤ 1099511627776) (hb : b.length ≤ 1099511627776) : Fun Try.prog 15 [rdP a, rdP b] (· = Bo (decide (a = b))) := by
  refine Fun.of Try.func15 rfl (Nat.le_of_ble_eq_true rfl) fun C => ?_
  refine WC.seq fun Fh1_ h1_ => ?_
  refine WC.region ?_
  refine RG.op _ _ rfl rfl (o_assign (.v _) rfl) ?_
  refine RG.nil (h1_ _ ?_)
  refine WC.seq fun Fh2_ h2_ => ?_
  refine WC.seq fun Fh3_ h3_ => ?_
  refine WC.region ?_
  refine RG.op _ _ rfl rfl (o_move (.rd _ _) rfl) ?_
  refine RG.op _ _ rfl rfl (o_len_rd rfl Try.underlying22) ?_
  refine RG.op _ _ rfl rfl (o_move (.rd _ _) rfl) ?_
  refine RG.op _ _ rfl rfl (o_len_rd rfl Try.underlying22) ?_
  refine RG.op _ _ rfl rfl (o_neI rfl rfl) ?_
  refine RG.nil (h3_ _ ?_)
  refine WC.cond _ rfl (fun c1 => ?_) (fun c1 => ?_)
  ·
    have p1 := c1
    try simp only [CN] at p1
    refine WC.seq fun Fh4_ h4_ => ?_
    refine WC.region ?_
    refine RG.op _ _ rfl rfl (o_assign (.v _) rfl) ?_
    refine RG.nil (h4_ _ ?_)
    refine WC.ret ?_
    exact Ends.r1 rfl (.tmp _ (.v _) rfl) (.v _) (congrArg Bo (by rw [decide_eq_false]; intro e; subst e; omega))
  ·
    have p1 := c1
    try simp only [CN] at p1
    have hlen : a.length = b.length := by omega
    refine WC.skip (h2_ _ ?_)
    refine WC.seq fun Fh5_ h5_ => ?_
    refine WC.seq fun Fh6_ h6_ => ?_
    refine WC.region ?_
    refine RG.op _ _ rfl rfl (o_assign (.v _) rfl) ?_
    refine RG.nil (h6_ _ ?_)
    refine WC.block ?_
    refine WC.loopU [4, 5, 11, 12, 13, 14, 15, 16, 17, 18, 19, 20, 21, 22, 23, 24, 25] (fun (k : Nat) => [(5, I64 ((k : Nat) : Int))]) (fun (k : Nat) => []) (fun (k : Nat) => k ≤ a.length ∧ a.take k = b.take k) (fun (k : Nat) => a.length - k) 0 ⟨Nat.zero_le _, rfl⟩ ?lpa7_ ?lpb8_
    case lpa7_ =>
      exact .mk' ⟨⟨rfl, .v _⟩, trivial⟩ (same_refl _ _) (rfl) (by repeat (first | exact trivial | refine And.intro (Nat.le_refl _) ?_ | refine And.intro trivial ?_ | refine And.intro (by show _ ≤ _; (first | omega | (simp only [LS] <;> omega))) ?_)) (by repeat (first | exact trivial | refine And.intro (one_ok (.own _ _ _ _ _ (Nat.le_refl _))) ?_ | refine And.intro (okp (by repeat (first | exact pu_bytes _ | exact pu_nil | exact pu_vs rfl | exact pu_map (fun _ => .v _) _ | exact pu_vals _ | refine pu_app ?_ ?_ | refine pu_cons (by exact pu_of rfl) ?_))) ?_))
    case lpb8_ =>
      rintro k hI
      refine WC.seq fun Fh9_ h9_ => ?_
      refine WC.seq fun Fh10_ h10_ => ?_
      refine WC.region ?_
      refine RG.op _ _ rfl rfl (o_move (.v _) rfl) ?_
      refine RG.op _ _ rfl rfl (o_move (.rd _ _) rfl) ?_
      refine RG.op _ _ rfl rfl (o_len_rd rfl Try.underlying22) ?_
      refine RG.op _ _ rfl rfl (o_ltI rfl rfl) ?_
      refine RG.nil (h10_ _ ?_)
      refine WC.cond _ rfl (fun c4 => ?_) (fun c4 => ?_)
      ·
        have p4 := c4
        try simp only [CN] at p4
        have hka : k < a.length := by omega
        have hkb : k < b.length := by omega
        refine WC.skip (h9_ _ ?_)
        refine WC.seq fun Fh11_ h11_ => ?_
        refine WC.block ?_
        refine WC.seq fun Fh12_ h12_ => ?_
        refine WC.drawn1 (by kernel_rfl) ?_
        refine PG.op _ rfl rfl rfl (by rintro _ rfl; exact o_move (.rd _ _) rfl) ?_
        refine PG.op _ rfl rfl rfl (by rintro _ rfl; exact o_move (.v _) rfl) ?_
        refine PG.op _ rfl rfl rfl (by rintro _ rfl; exact o_ixn_L (l := a) (f := pc) k pc_len rfl rfl rfl Try.underlying22 (sz_of Ty.inf36) rfl hka) ?_
        refine PG.op _ rfl rfl rfl (by rintro _ rfl; exact o_load_adr_L (xs := [_, _]) rfl Try.underlying36 rfl (sz_of Ty.inf36) rfl) ?_
        refine PG.op _ rfl rfl rfl (by rintro _ rfl; exact o_move (.rd _ _) rfl) ?_
        refine PG.op _ rfl rfl rfl (by rintro _ rfl; exact o_move (.v _) rfl) ?_
        refine PG.op _ rfl rfl rfl (by rintro _ rfl; exact o_ixn_L (l := b) (f := pc) k pc_len rfl rfl rfl Try.underlying22 (sz_of Ty.inf36) rfl hkb) ?_
        refine PG.op _ rfl rfl rfl (by rintro _ rfl; exact o_load_adr_L (xs := [_, _]) rfl Try.underlying36 rfl (sz_of Ty.inf36) rfl) ?_
        refine PG.op _ rfl rfl rfl (by rintro _ rfl; exact o_neS Ty.fs36 rfl rfl rfl) ?_
        refine PG.nil ⟨by kernel_rfl, rfl, (h12_ _ ?_)⟩
        refine WC.cond _ rfl (fun c6 => ?_) (fun c6 => ?_)
        ·
          have p6 := c6
          try simp only [CN] at p6
          refine WC.seq fun Fh13_ h13_ => ?_
          refine WC.region ?_
          refine RG.op _ _ rfl rfl (o_assign (.v _) rfl) ?_
          refine RG.nil (h13_ _ ?_)
          refine WC.ret ?_
          exact Ends.r1 rfl (.tmp _ (.v _) rfl) (.v _) (congrArg Bo (sp_stop hka hkb c6).symm)
        ·
          have p6 := c6
          try simp only [CN] at p6
          refine WC.skip (h11_ _ ?_)
          refine WC.region ?_
          refine RG.op _ _ rfl rfl (o_move (.v _) rfl) ?_
          refine RG.op _ _ rfl rfl (o_add rfl rfl (by first | omega | exact ubyte _ | (simp only [LS] <;> omega)) (by first | omega | exact ubyte _ | (simp only [LS] <;> omega))) ?_
          refine RG.op _ _ rfl rfl (o_assign (.v _) rfl) ?_
          refine RG.nil (Exists.intro (k + 1) ⟨⟨by omega, sp_step hka hkb hI.2 c6⟩, by first | omega | (simp only [LS] <;> omega), ?_⟩)
          exact .mk' ⟨⟨rfl, .v _⟩, trivial⟩ (by repeat (first | with_reducible exact same_refl _ _ | with_reducible refine same_updO (by with_unfolding_all exact rfl) ?_ | with_reducible refine same_updN ?_ | with_reducible refine same_updL (by with_unfolding_all exact rfl) ?_ | with_reducible refine same_forget (by with_unfolding_all exact rfl) ?_)) (rfl) (by repeat (first | exact trivial | refine And.intro (Nat.le_refl _) ?_ | refine And.intro trivial ?_ | refine And.intro (by show _ ≤ _; (first | omega | (simp only [LS] <;> omega))) ?_)) (by repeat (first | exact trivial | refine And.intro (one_ok (.own _ _ _ _ _ (Nat.le_refl _))) ?_ | refine And.intro (okp (by repeat (first | exact pu_bytes _ | exact pu_nil | exact pu_vs rfl | exact pu_map (fun _ => .v _) _ | exact pu_vals _ | refine pu_app ?_ ?_ | refine pu_cons (by exact pu_of rfl) ?_))) ?_))
      ·
        have p4 := c4
        try simp only [CN] at p4
        refine WC.exit (h5_ _ ?_)
        refine WC.seq fun Fh14_ h14_ => ?_
        refine WC.region ?_
        refine RG.op _ _ rfl rfl (o_assign (.v _) rfl) ?_
        refine RG.nil (h14_ _ ?_)
        refine WC.ret ?_
        exact Ends.r1 rfl (.tmp _ (.v _) rfl) (.v _) (congrArg Bo (by have h := hI.2; rw [List.take_of_length_le (by omega), List.take_of_length_le (by omega)] at h; rw [h]; simp))
set_option maxHeartbeats 4000000 in
theorem equal_c (a b : List Sp) (ha : a.length ≤ 1099511627776) (hb : b.length ≤ 1099511627776) : Fun Try.prog 29 [rdP a, rdP b] (· = Bo (decide (a = b))) := by
  refine Fun.of Try.func29 rfl (Nat.le_of_ble_eq_true rfl) fun C => ?_
  refine WC.seq fun Fh1_ h1_ => ?_
  refine WC.region ?_
  refine RG.op _ _ rfl rfl (o_assign (.v _) rfl) ?_
  refine RG.nil (h1_ _ ?_)
  refine WC.seq fun Fh2_ h2_ => ?_
  refine WC.seq fun Fh3_ h3_ => ?_
  refine WC.region ?_
  refine RG.op _ _ rfl rfl (o_move (.rd _ _) rfl) ?_
  refine RG.op _ _ rfl rfl (o_len_rd rfl Try.underlying22) ?_
  refine RG.op _ _ rfl rfl (o_move (.rd _ _) rfl) ?_
  refine RG.op _ _ rfl rfl (o_len_rd rfl Try.underlying22) ?_
  refine RG.op _ _ rfl rfl (o_neI rfl rfl) ?_
  refine RG.nil (h3_ _ ?_)
  refine WC.cond _ rfl (fun c1 => ?_) (fun c1 => ?_)
  ·
    have p1 := c1
    try simp only [CN] at p1
    refine WC.seq fun Fh4_ h4_ => ?_
    refine WC.region ?_
    refine RG.op _ _ rfl rfl (o_assign (.v _) rfl) ?_
    refine RG.nil (h4_ _ ?_)
    refine WC.ret ?_
    exact Ends.r1 rfl (.tmp _ (.v _) rfl) (.v _) (congrArg Bo (by rw [decide_eq_false]; intro e; subst e; omega))
  ·
    have p1 := c1
    try simp only [CN] at p1
    have hlen : a.length = b.length := by omega
    refine WC.skip (h2_ _ ?_)
    refine WC.seq fun Fh5_ h5_ => ?_
    refine WC.seq fun Fh6_ h6_ => ?_
    refine WC.region ?_
    refine RG.op _ _ rfl rfl (o_assign (.v _) rfl) ?_
    refine RG.nil (h6_ _ ?_)
    refine WC.block ?_
    refine WC.loopU [4, 5, 11, 12, 13, 14, 15, 16, 17, 18, 19, 20, 21, 22, 23, 24, 25] (fun (k : Nat) => [(5, I64 ((k : Nat) : Int))]) (fun (k : Nat) => []) (fun (k : Nat) => k ≤ a.length ∧ a.take k = b.take k) (fun (k : Nat) => a.length - k) 0 ⟨Nat.zero_le _, rfl⟩ ?lpa7_ ?lpb8_
    case lpa7_ =>
      exact .mk' ⟨⟨rfl, .v _⟩, trivial⟩ (same_refl _ _) (rfl) (by repeat (first | exact trivial | refine And.intro (Nat.le_refl _) ?_ | refine And.intro trivial ?_ | refine And.intro (by show _ ≤ _; (first | omega | (simp only [LS] <;> omega))) ?_)) (by repeat (first | exact trivial | refine And.intro (one_ok (.own _ _ _ _ _ (Nat.le_refl _))) ?_ | refine And.intro (okp (by repeat (first | exact pu_bytes _ | exact pu_nil | exact pu_vs rfl | exact pu_map (fun _ => .v _) _ | exact pu_vals _ | refine pu_app ?_ ?_ | refine pu_cons (by exact pu_of rfl) ?_))) ?_))
    case lpb8_ =>
      rintro k hI
      refine WC.seq fun Fh9_ h9_ => ?_
      refine WC.seq fun Fh10_ h10_ => ?_
      refine WC.region ?_
      refine RG.op _ _ rfl rfl (o_move (.v _) rfl) ?_
      refine RG.op _ _ rfl rfl (o_move (.rd _ _) rfl) ?_
      refine RG.op _ _ rfl rfl (o_len_rd rfl Try.underlying22) ?_
      refine RG.op _ _ rfl rfl (o_ltI rfl rfl) ?_
      refine RG.nil (h10_ _ ?_)
      refine WC.cond _ rfl (fun c4 => ?_) (fun c4 => ?_)
      ·
        have p4 := c4
        try simp only [CN] at p4
        have hka : k < a.length := by omega
        have hkb : k < b.length := by omega
        refine WC.skip (h9_ _ ?_)
        refine WC.seq fun Fh11_ h11_ => ?_
        refine WC.block ?_
        refine WC.seq fun Fh12_ h12_ => ?_
        refine WC.drawn1 (by kernel_rfl) ?_
        refine PG.op _ rfl rfl rfl (by rintro _ rfl; exact o_move (.rd _ _) rfl) ?_
        refine PG.op _ rfl rfl rfl (by rintro _ rfl; exact o_move (.v _) rfl) ?_
        refine PG.op _ rfl rfl rfl (by rintro _ rfl; exact o_ixn_L (l := a) (f := pc) k pc_len rfl rfl rfl Try.underlying22 (sz_of Ty.inf36) rfl hka) ?_
        refine PG.op _ rfl rfl rfl (by rintro _ rfl; exact o_load_adr_L (xs := [_, _]) rfl Try.underlying36 rfl (sz_of Ty.inf36) rfl) ?_
        refine PG.op _ rfl rfl rfl (by rintro _ rfl; exact o_move (.rd _ _) rfl) ?_
        refine PG.op _ rfl rfl rfl (by rintro _ rfl; exact o_move (.v _) rfl) ?_
        refine PG.op _ rfl rfl rfl (by rintro _ rfl; exact o_ixn_L (l := b) (f := pc) k pc_len rfl rfl rfl Try.underlying22 (sz_of Ty.inf36) rfl hkb) ?_
        refine PG.op _ rfl rfl rfl (by rintro _ rfl; exact o_load_adr_L (xs := [_, _]) rfl Try.underlying36 rfl (sz_of Ty.inf36) rfl) ?_
        refine PG.op _ rfl rfl rfl (by rintro _ rfl; exact o_neS Ty.fs36 rfl rfl rfl) ?_
        refine PG.nil ⟨by kernel_rfl, rfl, (h12_ _ ?_)⟩
        refine WC.cond _ rfl (fun c6 => ?_) (fun c6 => ?_)
        ·
          have p6 := c6
          try simp only [CN] at p6
          refine WC.seq fun Fh13_ h13_ => ?_
          refine WC.region ?_
          refine RG.op _ _ rfl rfl (o_assign (.v _) rfl) ?_
          refine RG.nil (h13_ _ ?_)
          refine WC.ret ?_
          exact Ends.r1 rfl (.tmp _ (.v _) rfl) (.v _) (congrArg Bo (sp_stop hka hkb c6).symm)
        ·
          have p6 := c6
          try simp only [CN] at p6
          refine WC.skip (h11_ _ ?_)
          refine WC.region ?_
          refine RG.op _ _ rfl rfl (o_move (.v _) rfl) ?_
          refine RG.op _ _ rfl rfl (o_add rfl rfl (by first | omega | exact ubyte _ | (simp only [LS] <;> omega)) (by first | omega | exact ubyte _ | (simp only [LS] <;> omega))) ?_
          refine RG.op _ _ rfl rfl (o_assign (.v _) rfl) ?_
          refine RG.nil (Exists.intro (k + 1) ⟨⟨by omega, sp_step hka hkb hI.2 c6⟩, by first | omega | (simp only [LS] <;> omega), ?_⟩)
          exact .mk' ⟨⟨rfl, .v _⟩, trivial⟩ (by repeat (first | with_reducible exact same_refl _ _ | with_reducible refine same_updO (by with_unfolding_all exact rfl) ?_ | with_reducible refine same_updN ?_ | with_reducible refine same_updL (by with_unfolding_all exact rfl) ?_ | with_reducible refine same_forget (by with_unfolding_all exact rfl) ?_)) (rfl) (by repeat (first | exact trivial | refine And.intro (Nat.le_refl _) ?_ | refine And.intro trivial ?_ | refine And.intro (by show _ ≤ _; (first | omega | (simp only [LS] <;> omega))) ?_)) (by repeat (first | exact trivial | refine And.intro (one_ok (.own _ _ _ _ _ (Nat.le_refl _))) ?_ | refine And.intro (okp (by repeat (first | exact pu_bytes _ | exact pu_nil | exact pu_vs rfl | exact pu_map (fun _ => .v _) _ | exact pu_vals _ | refine pu_app ?_ ?_ | refine pu_cons (by exact pu_of rfl) ?_))) ?_))
      ·
        have p4 := c4
        try simp only [CN] at p4
        refine WC.exit (h5_ _ ?_)
        refine WC.seq fun Fh14_ h14_ => ?_
        refine WC.region ?_
        refine RG.op _ _ rfl rfl (o_assign (.v _) rfl) ?_
        refine RG.nil (h14_ _ ?_)
        refine WC.ret ?_
        exact Ends.r1 rfl (.tmp _ (.v _) rfl) (.v _) (congrArg Bo (by have h := hI.2; rw [List.take_of_length_le (by omega), List.take_of_length_le (by omega)] at h; rw [h]; simp))
set_option maxHeartbeats 4000000 in
theorem form_c (l : List Sp) (hl : l.length ≤ 1099511627776) : Fun Try.prog 28 [rdP l] (· = Bo (formB l)) := by
  refine Fun.of Try.func28 rfl (Nat.le_of_ble_eq_true rfl) fun C => ?_
  refine WC.seq fun Fh1_ h1_ => ?_
  refine WC.region ?_
  refine RG.op _ _ rfl rfl (o_assign (.v _) rfl) ?_
  refine RG.nil (h1_ _ ?_)
  refine WC.seq fun Fh2_ h2_ => ?_
  refine WC.seq fun Fh3_ h3_ => ?_
  refine WC.region ?_
  refine RG.op _ _ rfl rfl (o_assign (.v _) rfl) ?_
  refine RG.nil (h3_ _ ?_)
  refine WC.block ?_
  refine WC.loopU [2, 3, 4, 5, 6, 7, 8, 9, 10, 11, 12, 13, 14, 15, 16, 17, 18, 19, 20, 21, 22, 23, 24, 25, 26, 27, 28, 29, 30, 31, 32, 33, 34, 35, 36, 37, 38] (fun (k : Nat) => [(3, I64 ((k : Nat) : Int))]) (fun (k : Nat) => []) (fun (k : Nat) => k ≤ l.length ∧ ∀ i < k, okAt l i = true) (fun (k : Nat) => l.length - k) 0 ⟨Nat.zero_le _, fun i h => absurd h (Nat.not_lt_zero i)⟩ ?lpa4_ ?lpb5_
  case lpa4_ =>
    exact .mk' ⟨⟨rfl, .v _⟩, trivial⟩ (same_refl _ _) (rfl) (by repeat (first | exact trivial | refine And.intro (Nat.le_refl _) ?_ | refine And.intro trivial ?_ | refine And.intro (by show _ ≤ _; (first | omega | (simp only [LS] <;> omega))) ?_)) (by repeat (first | exact trivial | refine And.intro (one_ok (.own _ _ _ _ _ (Nat.le_refl _))) ?_ | refine And.intro (okp (by repeat (first | exact pu_bytes _ | exact pu_nil | exact pu_vs rfl | exact pu_map (fun _ => .v _) _ | exact pu_vals _ | refine pu_app ?_ ?_ | refine pu_cons (by exact pu_of rfl) ?_))) ?_))
  case lpb5_ =>
    rintro k hI
    refine WC.seq fun Fh6_ h6_ => ?_
    refine WC.seq fun Fh7_ h7_ => ?_
    refine WC.region ?_
    refine RG.op _ _ rfl rfl (o_move (.v _) rfl) ?_
    refine RG.op _ _ rfl rfl (o_move (.rd _ _) rfl) ?_
    refine RG.op _ _ rfl rfl (o_len_rd rfl Try.underlying22) ?_
    refine RG.op _ _ rfl rfl (o_ltI rfl rfl) ?_
    refine RG.nil (h7_ _ ?_)
    refine WC.cond _ rfl (fun c2 => ?_) (fun c2 => ?_)
    ·
      have p2 := c2
      try simp only [CN] at p2
      have hkl : k < l.length := by omega
      refine WC.skip (h6_ _ ?_)
      refine WC.seq fun Fh8_ h8_ => ?_
      refine WC.block ?_
      refine WC.seq fun Fh9_ h9_ => ?_
      refine WC.drawn1 (by kernel_rfl) ?_
      refine PG.op _ rfl rfl rfl (by rintro _ rfl; exact o_move (.rd _ _) rfl) ?_
      refine PG.op _ rfl rfl rfl (by rintro _ rfl; exact o_move (.v _) rfl) ?_
      refine PG.op _ rfl rfl rfl (by rintro _ rfl; exact o_ixn_L (l := l) (f := pc) k pc_len rfl rfl rfl Try.underlying22 (sz_of Ty.inf36) rfl hkl) ?_
      refine PG.op _ rfl rfl rfl (by rintro _ rfl; exact o_fld_adr rfl Try.underlying36 rfl (sz_of Ty.inf2) (by decide)) ?_
      refine PG.op _ rfl rfl rfl (by rintro _ rfl; exact o_load_adr rfl Try.underlying2 rfl rfl) ?_
      refine PG.op _ rfl rfl rfl (by rintro _ rfl; exact o_move (.rd _ _) rfl) ?_
      refine PG.op _ rfl rfl rfl (by rintro _ rfl; exact o_move (.v _) rfl) ?_
      refine PG.op _ rfl rfl rfl (by rintro _ rfl; exact o_ixn_L (l := l) (f := pc) k pc_len rfl rfl rfl Try.underlying22 (sz_of Ty.inf36) rfl hkl) ?_
      refine PG.op _ rfl rfl rfl (by rintro _ rfl; exact o_fld_adr rfl Try.underlying36 rfl (sz_of Ty.inf2) (by decide)) ?_
      refine PG.op _ rfl rfl rfl (by rintro _ rfl; exact o_load_adr rfl Try.underlying2 rfl rfl) ?_
      refine PG.op _ rfl rfl rfl (by rintro _ rfl; exact o_leI rfl rfl) ?_
      refine PG.op _ rfl rfl rfl (by rintro _ rfl; exact o_move (.v _) rfl) ?_
      refine PG.opg1 _ _ _ _ _ rfl rfl rfl rfl rfl rfl (fun hb => (by rintro _ rfl; exact o_move (.v _) rfl)) ?_
      refine PG.opg1 _ _ _ _ _ rfl rfl rfl rfl rfl rfl (fun hb => (by rintro _ rfl; exact o_gtI (gdT hb) rfl)) ?_
      refine PG.opg1 _ _ _ _ _ rfl rfl rfl rfl rfl rfl (fun hb => (by rintro _ rfl; exact o_move (.v _) (gdT hb))) ?_
      refine PG.opg2 _ _ _ _ _ _ rfl rfl rfl rfl rfl rfl (fun hb => (by rintro _ rfl; exact o_move (.rd _ _) rfl)) ?_
      refine PG.opg2 _ _ _ _ _ _ rfl rfl rfl rfl rfl rfl (fun hb => (by rintro _ rfl; exact o_move (.v _) rfl)) ?_
      refine PG.opg2 _ _ _ _ _ _ rfl rfl rfl rfl rfl rfl (fun hb => (by rintro _ rfl; exact (by exact o_ixn_LZ (l := l) (f := pc) (0, 0) k pc_len rfl (gdT hb) (gdT hb) Try.underlying22 (sz_of Ty.inf36) rfl hkl))) ?_
      refine PG.opg2 _ _ _ _ _ _ rfl rfl rfl rfl rfl rfl (fun hb => (by rintro _ rfl; exact o_fld_adr (gdT hb) Try.underlying36 rfl (sz_of Ty.inf2) (by decide))) ?_
      refine PG.opg2 _ _ _ _ _ _ rfl rfl rfl rfl rfl rfl (fun hb => (by rintro _ rfl; exact o_load_adr (gdT hb) Try.underlying2 rfl rfl)) ?_
      refine PG.opg2 _ _ _ _ _ _ rfl rfl rfl rfl rfl rfl (fun hb => (by rintro _ rfl; exact o_move (.rd _ _) rfl)) ?_
      refine PG.opg2 _ _ _ _ _ _ rfl rfl rfl rfl rfl rfl (fun hb => (by rintro _ rfl; exact o_move (.v _) rfl)) ?_
      refine PG.opg2 _ _ _ _ _ _ rfl rfl rfl rfl rfl rfl (fun hb => (by rintro _ rfl; exact o_sub (gdT hb) rfl (by first | omega | exact ubyte _ | (have hb' := hb; simp only [CN] at hb'; omega) | (simp only [LS] <;> omega) | (have hb' := hb; simp only [CN] at hb'; simp only [LS]; omega)) (by first | omega | exact ubyte _ | (have hb' := hb; simp only [CN] at hb'; omega) | (simp only [LS] <;> omega) | (have hb' := hb; simp only [CN] at hb'; simp only [LS]; omega)))) ?_
      refine PG.opg2 _ _ _ _ _ _ rfl rfl rfl rfl rfl rfl (fun hb => (by rintro _ rfl; exact (by exact o_ixn_LZ (l := l) (f := pc) (0, 0) (k - 1) pc_len rfl (gdT hb) (gdT hb) Try.underlying22 (sz_of Ty.inf36) (by have h9 : (k : Int) > 0 := (by simp only [Bool.and_eq_true, beq_iff_eq] at hb; exact of_decide_eq_true hb.2); omega) (by omega)))) ?_
      refine PG.opg2 _ _ _ _ _ _ rfl rfl rfl rfl rfl rfl (fun hb => (by rintro _ rfl; exact o_fld_adr (gdT hb) Try.underlying36 rfl (sz_of Ty.inf2) (by decide))) ?_
      refine PG.opg2 _ _ _ _ _ _ rfl rfl rfl rfl rfl rfl (fun hb => (by rintro _ rfl; exact o_load_adr (gdT hb) Try.underlying2 rfl rfl)) ?_
      refine PG.opg2 _ _ _ _ _ _ rfl rfl rfl rfl rfl rfl (fun hb => (by rintro _ rfl; exact o_leI (gdT hb) (gdT hb))) ?_
      refine PG.opg1 _ _ _ _ _ rfl rfl rfl rfl rfl rfl (fun hb => (by rintro _ rfl; exact o_and _ _ (gdT hb) (gdS hb) rfl)) ?_
      refine PG.op _ rfl rfl rfl (by rintro _ rfl; exact o_or _ _ rfl rfl rfl) ?_
      refine PG.nil ⟨by kernel_rfl, rfl, (h9_ _ ?_)⟩
      refine WC.cond _ rfl (fun c4 => ?_) (fun c4 => ?_)
      ·
        have p4 := c4
        try simp only [CN] at p4
        refine WC.seq fun Fh10_ h10_ => ?_
        refine WC.region ?_
        refine RG.op _ _ rfl rfl (o_assign (.v _) rfl) ?_
        refine RG.nil (h10_ _ ?_)
        refine WC.ret ?_
        exact Ends.r1 rfl (.tmp _ (.v _) rfl) (.v _) (congrArg Bo (by unfold formB; rw [decide_eq_false]; intro h; have h2 := h k hkl; rw [okAt_of hkl, c4] at h2; cases h2))
      ·
        have p4 := c4
        try simp only [CN] at p4
        refine WC.skip (h8_ _ ?_)
        refine WC.region ?_
        refine RG.op _ _ rfl rfl (o_move (.v _) rfl) ?_
        refine RG.op _ _ rfl rfl (o_add rfl rfl (by first | omega | exact ubyte _ | (simp only [LS] <;> omega)) (by first | omega | exact ubyte _ | (simp only [LS] <;> omega))) ?_
        refine RG.op _ _ rfl rfl (o_assign (.v _) rfl) ?_
        refine RG.nil (Exists.intro (k + 1) ⟨⟨by omega, fun i h => if e : i = k then by rw [e, okAt_of hkl, c4]; rfl else hI.2 i (by omega)⟩, by first | omega | (simp only [LS] <;> omega), ?_⟩)
        exact .mk' ⟨⟨rfl, .v _⟩, trivial⟩ (by repeat (first | with_reducible exact same_refl _ _ | with_reducible refine same_updO (by with_unfolding_all exact rfl) ?_ | with_reducible refine same_updN ?_ | with_reducible refine same_updL (by with_unfolding_all exact rfl) ?_ | with_reducible refine same_forget (by with_unfolding_all exact rfl) ?_)) (rfl) (by repeat (first | exact trivial | refine And.intro (Nat.le_refl _) ?_ | refine And.intro trivial ?_ | refine And.intro (by show _ ≤ _; (first | omega | (simp only [LS] <;> omega))) ?_)) (by repeat (first | exact trivial | refine And.intro (one_ok (.own _ _ _ _ _ (Nat.le_refl _))) ?_ | refine And.intro (okp (by repeat (first | exact pu_bytes _ | exact pu_nil | exact pu_vs rfl | exact pu_map (fun _ => .v _) _ | exact pu_vals _ | refine pu_app ?_ ?_ | refine pu_cons (by exact pu_of rfl) ?_))) ?_))
    ·
      have p2 := c2
      try simp only [CN] at p2
      refine WC.exit (h2_ _ ?_)
      refine WC.seq fun Fh11_ h11_ => ?_
      refine WC.region ?_
      refine RG.op _ _ rfl rfl (o_assign (.v _) rfl) ?_
      refine RG.nil (h11_ _ ?_)
      refine WC.ret ?_
      exact Ends.r1 rfl (.tmp _ (.v _) rfl) (.v _) (congrArg Bo (by unfold formB; rw [decide_eq_true]; intro i h; exact hI.2 i (by omega)))
end Go.Proofs.Ytoekdjdgeleelaa
namespace Go.Proofs.Ytoekdjdgeleelaa
open Go.RowKit Go.DL

set_option maxHeartbeats 4000000 in
theorem has1_c (a b t : Int) : Fun Try.prog 53 [SP a b, .adr [I64 t]] (· = Bo (hasB a b t)) := by
  refine Fun.of Try.func53 rfl (Nat.le_of_ble_eq_true rfl) fun C => ?_
  refine WC.seq fun Fh1_ h1_ => ?_
  refine WC.region ?_
  refine RG.op _ _ rfl rfl (o_box (d := .agg [_, _]) rfl rfl) ?_
  refine RG.op _ _ rfl rfl (o_assign (.v _) rfl) ?_
  refine RG.nil (h1_ _ ?_)
  refine WC.seq fun Fh2_ h2_ => ?_
  refine WC.region ?_
  refine RG.op _ _ rfl rfl (o_load_ptr_L (xs := [_, _]) rfl Try.underlying36 rfl (sz_of Ty.inf36) rfl rfl rfl rfl) ?_
  refine RG.op _ _ rfl rfl (o_load_adr rfl Try.underlying2 rfl rfl) ?_
  refine RG.op _ _ rfl rfl (o_call Ty.cal27 (has_c _ _ _) ⟨.inl rfl, .inl rfl, trivial⟩ (by exact pua rfl)) ?_
  refine RG.op _ _ rfl rfl (o_assign (.v _) rfl) ?_
  refine RG.nil (h2_ _ ?_)
  refine WC.ret ?_
  exact Ends.r1 rfl (.tmp _ (.v _) rfl) (.v _) (rfl)
/-- Where the first element stands of which g is true, or -1. -/
def ixL (g : Sp → Bool) (l : List Sp) : Int := if l.any g then (l.findIdx g : Int) else -1
theorem ix_stop {g : Sp → Bool} {l : List Sp} {k : Nat} (h : k < l.length) (ha : (l.take k).any g = false) (c : g l[k] = true) : ixL g l = (k : Int) := by
  have e : l = l.take k ++ l[k] :: l.drop (k + 1) := by rw [List.getElem_cons_drop, List.take_append_drop]
  have e1 : l.any g = true := List.any_eq_true.2 ⟨l[k], List.getElem_mem h, c⟩
  have e2 : l.findIdx g = k := by
    rw [List.findIdx_eq h]
    refine ⟨c, fun j hj => ?_⟩
    have := List.any_eq_false.1 ha (l[j]'(by omega)) (by rw [List.mem_take_iff_getElem]; exact ⟨j, by omega, rfl⟩)
    simpa using this
  unfold ixL
  rw [if_pos e1, e2]
theorem ix_step {g : Sp → Bool} {l : List Sp} {k : Nat} (h : k < l.length) (ha : (l.take k).any g = false) (c : g l[k] = false) : (l.take (k + 1)).any g = false := by
  rw [List.take_succ_eq_append_getElem h, List.any_append, ha, List.any_cons, c]; rfl
set_option maxHeartbeats 4000000 in
theorem index_c {F : FuncId} {cs : List D} (g : Sp → Bool) (hF : DL.Callee Try.prog F) (hg : ∀ a b, Fun Try.prog F (SP a b :: cs) (· = Bo (g (a, b)))) (hc : cs.all pur1 = true) (l : List Sp) (hl : l.length ≤ 1099511627776) : Fun Try.prog 69 [rdP l, .fn (.func F) cs] (· = I64 (ixL g l)) := by
  refine Fun.of Try.func69 rfl (Nat.le_of_ble_eq_true rfl) fun C => ?_
  refine WC.seq fun Fh1_ h1_ => ?_
  refine WC.region ?_
  refine RG.op _ _ rfl rfl (o_assign (.v _) rfl) ?_
  refine RG.nil (h1_ _ ?_)
  refine WC.seq fun Fh2_ h2_ => ?_
  refine WC.seq fun Fh3_ h3_ => ?_
  refine WC.region ?_
  refine RG.op _ _ rfl rfl (o_move (.rd _ _) rfl) ?_
  refine RG.op _ _ rfl rfl (o_len_rd rfl Try.underlying22) ?_
  refine RG.op _ _ rfl rfl (o_move (.v _) rfl) ?_
  refine RG.nil (h3_ _ ?_)
  refine WC.block ?_
  refine WC.loopU [4, 5, 8, 9, 10, 11, 12, 13, 14, 15, 16, 17, 18] (fun (k : Nat) => [(8, I64 ((k : Nat) : Int))]) (fun (k : Nat) => []) (fun (k : Nat) => k ≤ l.length ∧ (l.take k).any g = false) (fun (k : Nat) => l.length - k) 0 ⟨Nat.zero_le _, rfl⟩ ?lpa4_ ?lpb5_
  case lpa4_ =>
    exact .mk' ⟨⟨rfl, .v _⟩, trivial⟩ (same_refl _ _) (rfl) (by repeat (first | exact trivial | refine And.intro (Nat.le_refl _) ?_ | refine And.intro trivial ?_ | refine And.intro (by show _ ≤ _; (first | omega | (simp only [LS] <;> omega))) ?_)) (by repeat (first | exact trivial | refine And.intro (one_ok (.own _ _ _ _ _ (Nat.le_refl _))) ?_ | refine And.intro (okp (by repeat (first | exact pu_bytes _ | exact pu_nil | exact pu_vs rfl | exact pu_map (fun _ => .v _) _ | exact pu_vals _ | refine pu_app ?_ ?_ | refine pu_cons (by exact pu_of rfl) ?_))) ?_))
  case lpb5_ =>
    rintro k hI
    refine WC.seq fun Fh6_ h6_ => ?_
    refine WC.region ?_
    refine RG.op _ _ rfl rfl (o_ltI rfl rfl) ?_
    refine RG.nil (h6_ _ ?_)
    refine WC.seq fun Fh7_ h7_ => ?_
    refine WC.cond _ rfl (fun c2 => ?_) (fun c2 => ?_)
    ·
      have p2 := c2
      try simp only [CN] at p2
      have hkl : k < l.length := by omega
      refine WC.skip (h7_ _ ?_)
      refine WC.seq fun Fh8_ h8_ => ?_
      refine WC.block ?_
      refine WC.seq fun Fh9_ h9_ => ?_
      refine WC.region ?_
      refine RG.op _ _ rfl rfl (o_move (.v _) rfl) ?_
      refine RG.op _ _ rfl rfl (o_assign (.v _) rfl) ?_
      refine RG.nil (h9_ _ ?_)
      refine WC.seq fun Fh10_ h10_ => ?_
      refine WC.region ?_
      refine RG.op _ _ rfl rfl (o_move (.fn _ _) rfl) ?_
      refine RG.op _ _ rfl rfl (o_move (.rd _ _) rfl) ?_
      refine RG.op _ _ rfl rfl (o_move (.v _) rfl) ?_
      refine RG.op _ _ rfl rfl (o_ixn_L (l := l) (f := pc) k pc_len rfl rfl rfl Try.underlying22 (sz_of Ty.inf36) rfl hkl) ?_
      refine RG.op _ _ rfl rfl (o_load_adr_L (xs := [_, _]) rfl Try.underlying36 rfl (sz_of Ty.inf36) rfl) ?_
      refine RG.op _ _ rfl rfl (o_callV (ds := [SP (l[k]'hkl).1 (l[k]'hkl).2]) (cs := cs) (.inl rfl) hF (hg _ _) ⟨.inl rfl, trivial⟩ (pua (by rw [List.all_append, hc]; rfl))) ?_
      refine RG.nil (h10_ _ ?_)
      refine WC.cond _ rfl (fun c4 => ?_) (fun c4 => ?_)
      ·
        have p4 := c4
        try simp only [CN] at p4
        refine WC.seq fun Fh11_ h11_ => ?_
        refine WC.region ?_
        refine RG.op _ _ rfl rfl (o_move (.v _) rfl) ?_
        refine RG.op _ _ rfl rfl (o_assign (.v _) rfl) ?_
        refine RG.nil (h11_ _ ?_)
        refine WC.ret ?_
        exact Ends.r1 rfl (.tmp _ (.v _) rfl) (.v _) (congrArg I64 (ix_stop hkl hI.2 c4).symm)
      ·
        have p4 := c4
        try simp only [CN] at p4
        refine WC.skip (h8_ _ ?_)
        refine WC.region ?_
        refine RG.op _ _ rfl rfl (o_add rfl rfl (by first | omega | exact ubyte _ | (simp only [LS] <;> omega)) (by first | omega | exact ubyte _ | (simp only [LS] <;> omega))) ?_
        refine RG.op _ _ rfl rfl (o_move (.v _) rfl) ?_
        refine RG.nil (Exists.intro (k + 1) ⟨⟨by omega, ix_step hkl hI.2 c4⟩, by first | omega | (simp only [LS] <;> omega), ?_⟩)
        exact .mk' ⟨⟨rfl, .v _⟩, trivial⟩ (by repeat (first | with_reducible exact same_refl _ _ | with_reducible refine same_updO (by with_unfolding_all exact rfl) ?_ | with_reducible refine same_updN ?_ | with_reducible refine same_updL (by with_unfolding_all exact rfl) ?_ | with_reducible refine same_forget (by with_unfolding_all exact rfl) ?_)) (rfl) (by repeat (first | exact trivial | refine And.intro (Nat.le_refl _) ?_ | refine And.intro trivial ?_ | refine And.intro (by show _ ≤ _; (first | omega | (simp only [LS] <;> omega))) ?_)) (by repeat (first | exact trivial | refine And.intro (one_ok (.own _ _ _ _ _ (Nat.le_refl _))) ?_ | refine And.intro (okp (by repeat (first | exact pu_bytes _ | exact pu_nil | exact pu_vs rfl | exact pu_map (fun _ => .v _) _ | exact pu_vals _ | refine pu_app ?_ ?_ | refine pu_cons (by exact pu_of rfl) ?_))) ?_))
    ·
      have p2 := c2
      try simp only [CN] at p2
      refine WC.exit (h2_ _ ?_)
      refine WC.seq fun Fh12_ h12_ => ?_
      refine WC.region ?_
      refine RG.op _ _ rfl rfl (o_assign (.v _) rfl) ?_
      refine RG.nil (h12_ _ ?_)
      refine WC.ret ?_
      exact Ends.r1 rfl (.tmp _ (.v _) rfl) (.v _) (congrArg I64 (by have h := hI.2; rw [List.take_of_length_le (by omega)] at h; unfold ixL; rw [h]; rfl))
theorem ix_ge (g : Sp → Bool) (l : List Sp) : decide (ixL g l ≥ 0) = l.any g := by
  unfold ixL
  cases h : l.any g
  · rfl
  · rw [if_pos rfl]; exact decide_eq_true (Int.natCast_nonneg _)
set_option maxHeartbeats 4000000 in
theorem contains_c {F : FuncId} {cs : List D} (g : Sp → Bool) (hF : DL.Callee Try.prog F) (hg : ∀ a b, Fun Try.prog F (SP a b :: cs) (· = Bo (g (a, b)))) (hc : cs.all pur1 = true) (hc0 : cs.all pur0 = true) (l : List Sp) (hl : l.length ≤ 1099511627776) : Fun Try.prog 52 [rdP l, .fn (.func F) cs] (· = Bo (l.any g)) := by
  refine Fun.of Try.func52 rfl (Nat.le_of_ble_eq_true rfl) fun C => ?_
  refine WC.seq fun Fh1_ h1_ => ?_
  refine WC.region ?_
  refine RG.op _ _ rfl rfl (o_assign (.v _) rfl) ?_
  refine RG.nil (h1_ _ ?_)
  refine WC.seq fun Fh2_ h2_ => ?_
  refine WC.region ?_
  refine RG.op _ _ rfl rfl (o_move (.rd _ _) rfl) ?_
  refine RG.op _ _ rfl rfl (o_move (.fn _ _) rfl) ?_
  refine RG.op _ _ rfl rfl (o_call (ds := [rdP l, .fn (.func F) cs]) Ty.cal69 (index_c g hF hg hc l hl) ⟨.inl rfl, .inl rfl, trivial⟩ ⟨.rd _ _, .fn _ _ (pur1_all hc0), trivial⟩) ?_
  refine RG.op _ _ rfl rfl (o_geI rfl rfl) ?_
  refine RG.op _ _ rfl rfl (o_assign (.v _) rfl) ?_
  refine RG.nil (h2_ _ ?_)
  refine WC.ret ?_
  exact Ends.r1 rfl (.tmp _ (.v _) rfl) (.v _) (congrArg Bo (ix_ge g l))
set_option maxHeartbeats 4000000 in
theorem pHas_c (l : List Sp) (t : Int) (hl : l.length ≤ 1099511627776) : Fun Try.prog 24 [rdP l, I64 t] (· = Bo (l.any fun p => hasB p.1 p.2 t)) := by
  refine Fun.of Try.func24 rfl (Nat.le_of_ble_eq_true rfl) fun C => ?_
  refine WC.seq fun Fh1_ h1_ => ?_
  refine WC.region ?_
  refine RG.op _ _ rfl rfl (o_box (d := .v _) rfl rfl) ?_
  refine RG.op _ _ rfl rfl (o_assign (.v _) rfl) ?_
  refine RG.nil (h1_ _ ?_)
  refine WC.seq fun Fh2_ h2_ => ?_
  refine WC.frz 0 _ [(3, .adr [I64 t])] rfl (by repeat (first | exact pu_bytes _ | exact pu_nil | exact pu_vs rfl | exact pu_map (fun _ => .v _) _ | exact pu_vals _ | refine pu_app ?_ ?_ | refine pu_cons (by exact pu_of rfl) ?_)) ⟨.ptr 0, trivial⟩ ?_
  refine WC.region ?_
  refine RG.op _ _ rfl rfl (o_move (.rd _ _) rfl) ?_
  refine RG.op _ _ rfl rfl (o_makeFunc) ?_
  refine RG.op _ _ rfl rfl (o_call (ds := [rdP l, .fn (.func 53) [.adr [I64 t]]]) Ty.cal52 (contains_c (fun p => hasB p.1 p.2 t) Ty.cal53 (fun a b => has1_c a b t) rfl rfl l hl) ⟨.inl rfl, .inl rfl, trivial⟩ (by exact pua rfl)) ?_
  refine RG.op _ _ rfl rfl (o_assign (.v _) rfl) ?_
  refine RG.nil (h2_ _ ?_)
  refine WC.ret ?_
  exact Ends.r1 rfl (.tmp _ (.v _) rfl) (.v _) (rfl)
end Go.Proofs.Ytoekdjdgeleelaa
namespace Go.Proofs.Ytoekdjdgeleelaa
open Go.RowKit Go.DL

theorem pu_pcs (l : List Sp) : ∀ c ∈ l.flatMap pc, Pure' c := pu_flatMap (fun _ => pu_vs rfl) l
theorem one_pcs (l : List Sp) : ∀ c ∈ l.flatMap pc, oneD c = true := one_flatMap (fun _ => by intro c hc; simp [pc] at hc; rcases hc with rfl | rfl <;> rfl) l
theorem len_pcs : ∀ (l : List Sp), (l.flatMap pc).length = l.length * 2
  | [] => rfl
  | p :: l => by rw [List.flatMap_cons, List.length_append, len_pcs l, pc_len, List.length_cons]; omega
set_option maxHeartbeats 4000000 in
theorem own_c (l : List Sp) (hl : l.length ≤ 1099511627776) : Fun Try.prog 10 [rdP l] (· = rdP l) := by
  refine Fun.of Try.func10 rfl (Nat.le_of_ble_eq_true rfl) fun C => ?_
  refine WC.seq fun Fh1_ h1_ => ?_
  refine WC.region ?_
  refine RG.op _ _ rfl rfl (o_assign (.v _) rfl) ?_
  refine RG.nil (h1_ _ ?_)
  refine WC.seq fun Fh2_ h2_ => ?_
  refine WC.region ?_
  refine RG.op _ _ rfl rfl (o_move (.rd _ _) rfl) ?_
  refine RG.op _ _ rfl rfl (o_appN (Elem.of Try.underlying22 Ty.inf36 rfl (by decide)) rfl rfl (by first | omega | exact ubyte _ | (simp only [LS, len_pcs] <;> omega)) (by repeat (first | exact bytesD_one _ | exact one_nil | exact one_map (fun _ => rfl) _ | exact one_vals _ | exact one_pcs _ | refine one_app ?_ ?_ | refine one_cons rfl ?_)) (by first | omega | exact ubyte _ | (simp only [LS, len_pcs] <;> omega)) (by first | omega | exact ubyte _ | (simp only [LS, len_pcs] <;> omega))) ?_
  refine RG.op _ _ rfl rfl (o_assign (.own _ _ _ _ _) rfl) ?_
  refine RG.nil (h2_ _ ?_)
  refine WC.ret ?_
  exact Ends.r1 rfl (.tmp _ (.own _ _ _ _ _) rfl) (.tb rfl (by repeat (first | exact pu_pcs _ | exact pu_bytes _ | exact pu_nil | exact pu_vs rfl | exact pu_map (fun _ => .v _) _ | exact pu_vals _ | refine pu_app ?_ ?_ | refine pu_cons (by exact pu_of rfl) ?_))) (rfl)
abbrev rdPs (l : List (List Sp)) : D := .rd l.length (l.map rdP)
set_option maxHeartbeats 4000000 in
theorem great_c (l : List (List Sp)) (hl : l.length ≤ 1099511627776) (hs : ∀ a ∈ l, a.length ≤ 9223372036854775807) : Fun Try.prog 8 [rdPs l] (· = Bo (l.any fun a => decide (a.length > 40))) := by
  refine Fun.of Try.func8 rfl (Nat.le_of_ble_eq_true rfl) fun C => ?_
  refine WC.seq fun Fh1_ h1_ => ?_
  refine WC.region ?_
  refine RG.op _ _ rfl rfl (o_assign (.v _) rfl) ?_
  refine RG.nil (h1_ _ ?_)
  refine WC.seq fun Fh2_ h2_ => ?_
  refine WC.seq fun Fh3_ h3_ => ?_
  refine WC.region ?_
  refine RG.op _ _ rfl rfl (o_assign (.v _) rfl) ?_
  refine RG.nil (h3_ _ ?_)
  refine WC.block ?_
  refine WC.loopU [2, 3, 4, 5, 6, 7, 8, 9, 10, 11, 12, 13, 14, 15] (fun (k : Nat) => [(3, I64 ((k : Nat) : Int))]) (fun (k : Nat) => []) (fun (k : Nat) => k ≤ l.length ∧ (l.take k).any (fun a => decide (a.length > 40)) = false) (fun (k : Nat) => l.length - k) 0 ⟨Nat.zero_le _, rfl⟩ ?lpa4_ ?lpb5_
  case lpa4_ =>
    exact .mk' ⟨⟨rfl, .v _⟩, trivial⟩ (same_refl _ _) (rfl) (by repeat (first | exact trivial | refine And.intro (Nat.le_refl _) ?_ | refine And.intro trivial ?_ | refine And.intro (by show _ ≤ _; (first | omega | (simp only [LS, len_pcs] <;> omega))) ?_)) (by repeat (first | exact trivial | refine And.intro (one_ok (.own _ _ _ _ _ (Nat.le_refl _))) ?_ | refine And.intro (okp (by repeat (first | exact pu_pcs _ | exact pu_bytes _ | exact pu_nil | exact pu_vs rfl | exact pu_map (fun _ => .v _) _ | exact pu_vals _ | refine pu_app ?_ ?_ | refine pu_cons (by exact pu_of rfl) ?_))) ?_))
  case lpb5_ =>
    rintro k hI
    refine WC.seq fun Fh6_ h6_ => ?_
    refine WC.seq fun Fh7_ h7_ => ?_
    refine WC.region ?_
    refine RG.op _ _ rfl rfl (o_move (.v _) rfl) ?_
    refine RG.op _ _ rfl rfl (o_move (.rd _ _) rfl) ?_
    refine RG.op _ _ rfl rfl (o_len_rd rfl Try.underlying46) ?_
    refine RG.op _ _ rfl rfl (o_ltI rfl rfl) ?_
    refine RG.nil (h7_ _ ?_)
    refine WC.cond _ rfl (fun c2 => ?_) (fun c2 => ?_)
    ·
      have p2 := c2
      try simp only [CN] at p2
      have hkl : k < l.length := by omega
      refine WC.skip (h6_ _ ?_)
      refine WC.seq fun Fh8_ h8_ => ?_
      refine WC.block ?_
      refine WC.seq fun Fh9_ h9_ => ?_
      refine WC.region ?_
      refine RG.op _ _ rfl rfl (o_move (.rd _ _) rfl) ?_
      refine RG.op _ _ rfl rfl (o_move (.v _) rfl) ?_
      refine RG.op _ _ rfl rfl (o_ixn_M (l := l) (g := rdP) k rfl rfl Try.underlying46 (sz_of Ty.inf22) rfl hkl) ?_
      refine RG.op _ _ rfl rfl (o_load_adr rfl Try.underlying22 rfl rfl) ?_
      refine RG.op _ _ rfl rfl (o_len_rd rfl Try.underlying22) ?_
      refine RG.op _ _ rfl rfl (o_gtI rfl rfl) ?_
      refine RG.nil (h9_ _ ?_)
      refine WC.cond _ rfl (fun c4 => ?_) (fun c4 => ?_)
      ·
        have p4 := c4
        try simp only [CN] at p4
        refine WC.seq fun Fh10_ h10_ => ?_
        refine WC.region ?_
        refine RG.op _ _ rfl rfl (o_assign (.v _) rfl) ?_
        refine RG.nil (h10_ _ ?_)
        refine WC.ret ?_
        exact Ends.r1 rfl (.tmp _ (.v _) rfl) (.v _) (congrArg Bo (by rw [List.any_eq_true.2 ⟨l[k], List.getElem_mem hkl, by simp; omega⟩]))
      ·
        have p4 := c4
        try simp only [CN] at p4
        refine WC.skip (h8_ _ ?_)
        refine WC.region ?_
        refine RG.op _ _ rfl rfl (o_move (.v _) rfl) ?_
        refine RG.op _ _ rfl rfl (o_add rfl rfl (by first | omega | exact ubyte _ | (simp only [LS, len_pcs] <;> omega)) (by first | omega | exact ubyte _ | (simp only [LS, len_pcs] <;> omega))) ?_
        refine RG.op _ _ rfl rfl (o_assign (.v _) rfl) ?_
        refine RG.nil (Exists.intro (k + 1) ⟨⟨by omega, by rw [List.take_succ_eq_append_getElem hkl, List.any_append, hI.2, List.any_cons]; simp; omega⟩, by first | omega | (simp only [LS, len_pcs] <;> omega), ?_⟩)
        exact .mk' ⟨⟨rfl, .v _⟩, trivial⟩ (by repeat (first | with_reducible exact same_refl _ _ | with_reducible refine same_updO (by with_unfolding_all exact rfl) ?_ | with_reducible refine same_updN ?_ | with_reducible refine same_updL (by with_unfolding_all exact rfl) ?_ | with_reducible refine same_forget (by with_unfolding_all exact rfl) ?_)) (rfl) (by repeat (first | exact trivial | refine And.intro (Nat.le_refl _) ?_ | refine And.intro trivial ?_ | refine And.intro (by show _ ≤ _; (first | omega | (simp only [LS, len_pcs] <;> omega))) ?_)) (by repeat (first | exact trivial | refine And.intro (one_ok (.own _ _ _ _ _ (Nat.le_refl _))) ?_ | refine And.intro (okp (by repeat (first | exact pu_pcs _ | exact pu_bytes _ | exact pu_nil | exact pu_vs rfl | exact pu_map (fun _ => .v _) _ | exact pu_vals _ | refine pu_app ?_ ?_ | refine pu_cons (by exact pu_of rfl) ?_))) ?_))
    ·
      have p2 := c2
      try simp only [CN] at p2
      refine WC.exit (h2_ _ ?_)
      refine WC.seq fun Fh11_ h11_ => ?_
      refine WC.region ?_
      refine RG.op _ _ rfl rfl (o_assign (.v _) rfl) ?_
      refine RG.nil (h11_ _ ?_)
      refine WC.ret ?_
      exact Ends.r1 rfl (.tmp _ (.v _) rfl) (.v _) (congrArg Bo (by have h := hI.2; rw [List.take_of_length_le (by omega)] at h; exact h.symm))
end Go.Proofs.Ytoekdjdgeleelaa
namespace Go.Proofs.Ytoekdjdgeleelaa
open Go.RowKit Go.DL

theorem pc_get : ∀ (l : List Sp) (k : Nat), k < l.length → (l.flatMap pc)[0 + k * 2 + 1]? = some (I64 (l.getD k (0, 0)).2) ∧ (l.flatMap pc)[0 + k * 2]? = some (I64 (l.getD k (0, 0)).1)
  | [], k, h => absurd h (Nat.not_lt_zero k)
  | p :: l, 0, _ => ⟨rfl, rfl⟩
  | p :: l, k + 1, h => by
    have h1 := pc_get l k (by simpa using h)
    have e1 : 0 + (k + 1) * 2 + 1 = (0 + k * 2 + 1) + 2 := by omega
    have e2 : 0 + (k + 1) * 2 = (0 + k * 2) + 2 := by omega
    rw [e1, e2]
    exact h1
theorem pu_tk (l : List Sp) (n : Nat) : ∀ c ∈ (l.flatMap pc).take n, Pure' c := fun c h => pu_pcs l c (List.mem_of_mem_take h)
theorem pu_dr (l : List Sp) (n : Nat) : ∀ c ∈ (l.flatMap pc).drop n, Pure' c := fun c h => pu_pcs l c (List.mem_of_mem_drop h)
/-- A list in form, and a span that does not begin ahead of its last one. -/
def joinM (l : List Sp) (s : Sp) : List Sp := if (decide ((l.length : Int) - 1 ≥ 0) && decide ((l.getD (l.length - 1) (0, 0)).2 ≥ s.1)) = true then l.set (l.length - 1) ((l.getD (l.length - 1) (0, 0)).1, if s.2 > (l.getD (l.length - 1) (0, 0)).2 then s.2 else (l.getD (l.length - 1) (0, 0)).2) else l ++ [s]
theorem spl_pc : ∀ (l : List Sp) (k : Nat) (x : Int), k < l.length → spl (l.flatMap pc) (0 + k * 2 + 1) [I64 x] = (l.set k ((l.getD k (0, 0)).1, x)).flatMap pc
  | [], k, _, h => absurd h (Nat.not_lt_zero k)
  | p :: l, 0, x, _ => rfl
  | p :: l, k + 1, x, h => by
    have h1 := spl_pc l k x (by simpa using h)
    have e1 : 0 + (k + 1) * 2 + 1 = (0 + k * 2 + 1) + 2 := by omega
    rw [e1]
    show _ = pc p ++ (l.set k ((l.getD k (0, 0)).1, x)).flatMap pc
    rw [← h1]
    simp only [spl, pc, List.flatMap_cons, List.cons_append, List.nil_append, List.length_cons, List.length_nil]
    rfl
theorem joinM_len (l : List Sp) (s : Sp) : (joinM l s).length ≤ l.length + 1 := by
  unfold joinM
  split <;> simp
set_option maxHeartbeats 4000000 in
theorem join_c (l : List Sp) (a b : Int) (hl : l.length ≤ 1099511627776) : FunM Try.prog 46 [ow 0 l.length 2, SP a b] [tb 36 l.length (l.flatMap pc)] (fun o H' => o = .ret (ow 0 (joinM l (a, b)).length 2) ∧ H' = [tb 36 (joinM l (a, b)).length ((joinM l (a, b)).flatMap pc)]) := by
  refine FunM.of Try.func46 rfl (Nat.le_of_ble_eq_true rfl) fun C => ?_
  refine WC.seq fun Fh1_ h1_ => ?_
  refine WC.region ?_
  refine RG.op _ _ rfl rfl (o_box (d := .agg [_, _]) rfl rfl) ?_
  refine RG.op _ _ rfl rfl (o_assign (.v _) rfl) ?_
  refine RG.nil (h1_ _ ?_)
  refine WC.seq fun Fh2_ h2_ => ?_
  refine WC.seq fun Fh3_ h3_ => ?_
  refine WC.region ?_
  refine RG.op _ _ rfl rfl (o_move (.own _ _ _ _ _) rfl) ?_
  refine RG.op _ _ rfl rfl (o_len_own rfl Try.underlying22) ?_
  refine RG.op _ _ rfl rfl (o_sub rfl rfl (by first | omega | exact ubyte _ | (simp only [LS, len_pcs] <;> omega)) (by first | omega | exact ubyte _ | (simp only [LS, len_pcs] <;> omega))) ?_
  refine RG.op _ _ rfl rfl (o_assign (.v _) rfl) ?_
  refine RG.nil (h3_ _ ?_)
  refine WC.seq fun Fh4_ h4_ => ?_
  refine WC.drawn1 (by kernel_rfl) ?_
  refine PG.op _ rfl rfl rfl (by rintro _ rfl; exact o_move (.v _) rfl) ?_
  refine PG.op _ rfl rfl rfl (by rintro _ rfl; exact o_geI rfl rfl) ?_
  refine PG.op _ rfl rfl rfl (by rintro _ rfl; exact o_move (.v _) rfl) ?_
  refine PG.opg1 _ _ _ _ _ rfl rfl rfl rfl rfl rfl (fun hb => (by rintro _ rfl; exact o_move (.own _ _ _ _ _) rfl)) ?_
  refine PG.opg1 _ _ _ _ _ rfl rfl rfl rfl rfl rfl (fun hb => (by rintro _ rfl; exact o_move (.v _) rfl)) ?_
  refine PG.opg1 _ _ _ _ _ rfl rfl rfl rfl rfl rfl (fun hb => (by rintro _ rfl; exact o_ixn_own (l.length - 1) (gdT hb) (gdT hb) Try.underlying22 (sz_of Ty.inf36) (by first | omega | exact ubyte _ | (have hb' := hb; simp only [CN] at hb'; omega) | (simp only [LS, len_pcs] <;> omega) | (have hb' := hb; simp only [CN] at hb'; simp only [LS, len_pcs]; omega)) (by first | omega | exact ubyte _ | (have hb' := hb; simp only [CN] at hb'; omega) | (simp only [LS, len_pcs] <;> omega) | (have hb' := hb; simp only [CN] at hb'; simp only [LS, len_pcs]; omega)))) ?_
  refine PG.opg1 _ _ _ _ _ rfl rfl rfl rfl rfl rfl (fun hb => (by rintro _ rfl; exact o_fld_ptr (gdT hb) Try.underlying36 rfl (sz_of Ty.inf2) (by decide))) ?_
  refine PG.opg1 _ _ _ _ _ rfl rfl rfl rfl rfl rfl (fun hb => (by rintro _ rfl; exact (by exact o_load_ptr (b := ⟨l.flatMap pc, 36, true, l.length⟩) (d := I64 (l.getD (l.length - 1) (0, 0)).2) (gdT hb) Try.underlying2 rfl rfl rfl (pc_get l (l.length - 1) (by have hb' := hb; simp only [CN] at hb'; omega)).1))) ?_
  refine PG.opg1 _ _ _ _ _ rfl rfl rfl rfl rfl rfl (fun hb => (by rintro _ rfl; exact o_fld_ptr rfl Try.underlying36 rfl (sz_of Ty.inf2) (by decide))) ?_
  refine PG.opg1 _ _ _ _ _ rfl rfl rfl rfl rfl rfl (fun hb => (by rintro _ rfl; exact o_load_ptr (gdT hb) Try.underlying2 rfl rfl rfl rfl)) ?_
  refine PG.opg1 _ _ _ _ _ rfl rfl rfl rfl rfl rfl (fun hb => (by rintro _ rfl; exact o_geI (gdT hb) (gdT hb))) ?_
  refine PG.op _ rfl rfl rfl (by rintro _ rfl; exact o_and _ _ rfl rfl rfl) ?_
  refine PG.nil ⟨by kernel_rfl, rfl, (h4_ _ ?_)⟩
  refine WC.cond _ rfl (fun c2 => ?_) (fun c2 => ?_)
  ·
    have p2 := c2
    try simp only [CN] at p2
    have hk1 : l.length - 1 < l.length := by omega
    refine WC.seq fun Fh5_ h5_ => ?_
    refine WC.drawn3 (fun H => H[1]? = some (some ⟨[I64 a, I64 b], 36, false, 0⟩)) (by kernel_rfl) (rfl) ?_
    refine PG.op _ rfl rfl rfl (fun _ hH => o_move (.own _ _ _ _ _) rfl) ?_
    refine PG.op _ rfl rfl rfl (fun _ hH => o_move (.v _) rfl) ?_
    refine PG.op _ rfl rfl rfl (fun _ hH => o_move (.own _ _ _ _ _) rfl) ?_
    refine PG.op _ rfl rfl rfl (fun _ hH => o_move (.v _) rfl) ?_
    refine PG.op _ rfl rfl rfl (fun _ hH => o_ixn_own (l.length - 1) rfl rfl Try.underlying22 (sz_of Ty.inf36) (by first | omega | exact ubyte _ | (simp only [LS, len_pcs] <;> omega)) (by first | omega | exact ubyte _ | (simp only [LS, len_pcs] <;> omega))) ?_
    refine PG.op _ rfl rfl rfl (fun _ hH => o_fld_ptr rfl Try.underlying36 rfl (sz_of Ty.inf2) (by decide)) ?_
    refine PG.opm _ _ rfl rfl rfl ((by exact o_load_ptr (b := ⟨l.flatMap pc, 36, true, l.length⟩) (d := I64 (l.getD (l.length - 1) (0, 0)).2) rfl Try.underlying2 rfl rfl rfl (pc_get l (l.length - 1) hk1).1)) ?_
    refine PG.op _ rfl rfl rfl (fun _ hH => o_fld_ptr rfl Try.underlying36 rfl (sz_of Ty.inf2) (by decide)) ?_
    refine PG.op _ rfl rfl rfl (fun _ hH => o_load_ptr rfl Try.underlying2 rfl hH rfl rfl) ?_
    refine PG.op _ rfl rfl rfl (fun _ hH => o_max rfl rfl) ?_
    refine PG.op _ rfl rfl rfl (fun _ hH => o_ixn_own (l.length - 1) rfl rfl Try.underlying22 (sz_of Ty.inf36) (by first | omega | exact ubyte _ | (simp only [LS, len_pcs] <;> omega)) (by first | omega | exact ubyte _ | (simp only [LS, len_pcs] <;> omega))) ?_
    refine PG.op _ rfl rfl rfl (fun _ hH => o_fld_ptr rfl Try.underlying36 rfl (sz_of Ty.inf2) (by decide)) ?_
    refine PG.opm _ _ rfl rfl rfl (o_store (d := .v _) rfl rfl rfl rfl (sz_of Ty.inf2) (by show 0 + (l.length - 1) * 2 + 1 + 1 ≤ (l.flatMap pc).length; rw [len_pcs]; omega) rfl) ?_
    refine PG.nil ⟨by kernel_rfl, List.forall_mem_cons.2 ⟨noHs rfl, List.forall_mem_cons.2 ⟨noHs rfl, List.forall_mem_cons.2 ⟨noHs rfl, List.forall_mem_cons.2 ⟨noHs rfl, List.forall_mem_cons.2 ⟨noHs rfl, List.forall_mem_cons.2 ⟨noHs rfl, List.forall_mem_cons.2 ⟨fun _ => rfl, List.forall_mem_cons.2 ⟨noHs rfl, List.forall_mem_cons.2 ⟨noHs rfl, List.forall_mem_cons.2 ⟨noHs rfl, List.forall_mem_cons.2 ⟨noHs rfl, List.forall_mem_cons.2 ⟨noHs rfl, List.forall_mem_cons.2 ⟨fun _ => rfl, List.forall_mem_nil _⟩⟩⟩⟩⟩⟩⟩⟩⟩⟩⟩⟩⟩, (h5_ _ ?_)⟩
    refine WC.seq fun Fh6_ h6_ => ?_
    refine WC.region ?_
    refine RG.op _ _ rfl rfl (o_move (.own _ _ _ _ _) rfl) ?_
    refine RG.op _ _ rfl rfl (o_assign (.own _ _ _ _ _) rfl) ?_
    refine RG.nil (h6_ _ ?_)
    refine WC.ret ?_
    first | refine endM.mk 1 [_] rfl rfl (by repeat (first | exact trivial | refine And.intro (one_ok (.own _ _ _ _ _ (Nat.le_refl _))) ?_ | refine And.intro (okp (by repeat (first | exact pu_pcs _ | exact pu_tk _ _ | exact pu_dr _ _ | exact pu_bytes _ | exact pu_nil | exact pu_vs rfl | exact pu_map (fun _ => .v _) _ | exact pu_vals _ | refine pu_app ?_ ?_ | refine pu_cons (by exact pu_of rfl) ?_))) ?_)) ?_ | (simp only [thenQ, blkQ, noGo]; refine endM.mk 1 [_] rfl rfl (by repeat (first | exact trivial | refine And.intro (one_ok (.own _ _ _ _ _ (Nat.le_refl _))) ?_ | refine And.intro (okp (by repeat (first | exact pu_pcs _ | exact pu_tk _ _ | exact pu_dr _ _ | exact pu_bytes _ | exact pu_nil | exact pu_vs rfl | exact pu_map (fun _ => .v _) _ | exact pu_vals _ | refine pu_app ?_ ?_ | refine pu_cons (by exact pu_of rfl) ?_))) ?_)) ?_)
    exact EndsM.r1 rfl (.tmp _ (.own _ _ _ _ _) rfl) (by first | exact .own _ _ _ _ _ (Nat.le_refl _) | exact .v _ | exact Pure'.ok (by exact pu_of rfl) _ | exact .tup _ (by repeat (first | exact ok_nil | refine ok_cons (by first | exact .own _ _ _ _ _ (Nat.le_refl _) | exact .ptr _ _ _ (Nat.le_refl _) | exact .v _ | exact Pure'.ok (by exact pu_of rfl) _) ?_))) (⟨by unfold joinM; rw [if_pos c2, List.length_set], congrArg (fun c => [c]) (by unfold joinM; rw [if_pos c2, List.length_set]; exact tb_eq rfl (spl_pc l _ _ hk1))⟩)
  ·
    have p2 := c2
    try simp only [CN] at p2
    refine WC.skip (h2_ _ ?_)
    refine WC.seq fun Fh7_ h7_ => ?_
    refine WC.region ?_
    refine RG.op _ _ rfl rfl (o_move (.own _ _ _ _ _) rfl) ?_
    refine RG.op _ _ rfl rfl (o_load_ptr_L (xs := [_, _]) rfl Try.underlying36 rfl (sz_of Ty.inf36) rfl rfl rfl rfl) ?_
    refine RG.op _ _ rfl rfl (o_litP (cs := [_, _]) Try.underlying22 Ty.inf36 rfl rfl rfl rfl (by repeat (first | exact pu_pcs _ | exact pu_tk _ _ | exact pu_dr _ _ | exact pu_bytes _ | exact pu_nil | exact pu_vs rfl | exact pu_map (fun _ => .v _) _ | exact pu_vals _ | refine pu_app ?_ ?_ | refine pu_cons (by exact pu_of rfl) ?_))) ?_
    refine RG.op _ _ rfl rfl (o_appT (Elem.of Try.underlying22 Ty.inf36 rfl (by decide)) rfl rfl rfl (by first | omega | exact ubyte _ | (simp only [LS, len_pcs] <;> omega)) (by first | omega | exact ubyte _ | (simp only [LS, len_pcs] <;> omega)) (by repeat (first | exact bytesD_one _ | exact one_nil | exact one_map (fun _ => rfl) _ | exact one_vals _ | exact one_pcs _ | refine one_app ?_ ?_ | refine one_cons rfl ?_)) (by first | omega | exact ubyte _ | (simp only [LS, len_pcs] <;> omega)) (by first | omega | exact ubyte _ | (simp only [LS, len_pcs] <;> omega))) ?_
    refine RG.op _ _ rfl rfl (o_assign (.own _ _ _ _ _) rfl) ?_
    refine RG.nil (h7_ _ ?_)
    refine WC.ret ?_
    first | refine endM.mk 1 [_] rfl rfl (by repeat (first | exact trivial | refine And.intro (one_ok (.own _ _ _ _ _ (Nat.le_refl _))) ?_ | refine And.intro (okp (by repeat (first | exact pu_pcs _ | exact pu_tk _ _ | exact pu_dr _ _ | exact pu_bytes _ | exact pu_nil | exact pu_vs rfl | exact pu_map (fun _ => .v _) _ | exact pu_vals _ | refine pu_app ?_ ?_ | refine pu_cons (by exact pu_of rfl) ?_))) ?_)) ?_ | (simp only [thenQ, blkQ, noGo]; refine endM.mk 1 [_] rfl rfl (by repeat (first | exact trivial | refine And.intro (one_ok (.own _ _ _ _ _ (Nat.le_refl _))) ?_ | refine And.intro (okp (by repeat (first | exact pu_pcs _ | exact pu_tk _ _ | exact pu_dr _ _ | exact pu_bytes _ | exact pu_nil | exact pu_vs rfl | exact pu_map (fun _ => .v _) _ | exact pu_vals _ | refine pu_app ?_ ?_ | refine pu_cons (by exact pu_of rfl) ?_))) ?_)) ?_)
    exact EndsM.r1 rfl (.tmp _ (.own _ _ _ _ _) rfl) (by first | exact .own _ _ _ _ _ (Nat.le_refl _) | exact .v _ | exact Pure'.ok (by exact pu_of rfl) _ | exact .tup _ (by repeat (first | exact ok_nil | refine ok_cons (by first | exact .own _ _ _ _ _ (Nat.le_refl _) | exact .ptr _ _ _ (Nat.le_refl _) | exact .v _ | exact Pure'.ok (by exact pu_of rfl) _) ?_))) (⟨by unfold joinM; rw [if_neg (by rw [c2]; exact Bool.false_ne_true), List.length_append]; rfl, congrArg (fun c => [c]) (by unfold joinM; rw [if_neg (by rw [c2]; exact Bool.false_ne_true), List.length_append]; exact tb_eq rfl (by rw [List.flatMap_append]; rfl))⟩)
end Go.Proofs.Ytoekdjdgeleelaa
namespace Go.Proofs.Ytoekdjdgeleelaa
open Go.Shelf
def Try.sortP_ren : Go.Shelf.Ren := ⟨fun | 6 => 43 | 15 => 65 | 14 => 64 | 28 => 81 | 29 => 82 | 20 => 73 | 21 => 74 | 22 => 75 | 23 => 76 | 24 => 77 | 25 => 78 | 26 => 79 | 27 => 80 | 46 => 86 | 47 => 87 | 48 => 88 | 49 => 89 | 50 => 90 | 57 => 93 | n => n, fun | 22 => 22 | 24 => 36 | 25 => 55 | 3 => 3 | 39 => 66 | 0 => 0 | 53 => 87 | 55 => 89 | 4 => 4 | 46 => 80 | 45 => 79 | 50 => 84 | 5 => 5 | 9 => 9 | 66 => 93 | 70 => 97 | 76 => 101 | 77 => 102 | n => n, fun | n => n⟩
theorem Try.sortP : Go.Proofs.SlLaysF0.n6 Try.prog Try.sortP_ren := {
  mixed := by kernel_rfl
  f6 := ⟨Try.f43.name, by decide, Try.func43.trans (congrArg some (by kernel_rfl))⟩
  f14 := ⟨Try.f64.name, by decide, Try.func64.trans (congrArg some (by kernel_rfl))⟩
  f15 := Try.func65.trans (congrArg some (by kernel_rfl))
  f20 := ⟨Try.f73.name, by decide, Try.func73.trans (congrArg some (by kernel_rfl))⟩
  f21 := ⟨Try.f74.name, by decide, Try.func74.trans (congrArg some (by kernel_rfl))⟩
  f22 := ⟨Try.f75.name, by decide, Try.func75.trans (congrArg some (by kernel_rfl))⟩
  f23 := ⟨Try.f76.name, by decide, Try.func76.trans (congrArg some (by kernel_rfl))⟩
  f24 := ⟨Try.f77.name, by decide, Try.func77.trans (congrArg some (by kernel_rfl))⟩
  f25 := ⟨Try.f78.name, by decide, Try.func78.trans (congrArg some (by kernel_rfl))⟩
  f26 := ⟨Try.f79.name, by decide, Try.func79.trans (congrArg some (by kernel_rfl))⟩
  f27 := ⟨Try.f80.name, by decide, Try.func80.trans (congrArg some (by kernel_rfl))⟩
  f28 := Try.func81.trans (congrArg some (by kernel_rfl))
  f29 := Try.func82.trans (congrArg some (by kernel_rfl))
  f46 := ⟨Try.f86.name, by decide, Try.func86.trans (congrArg some (by kernel_rfl))⟩
  f47 := Try.func87.trans (congrArg some (by kernel_rfl))
  f48 := Try.func88.trans (congrArg some (by kernel_rfl))
  f49 := ⟨Try.f89.name, by decide, Try.func89.trans (congrArg some (by kernel_rfl))⟩
  f50 := ⟨Try.f90.name, by decide, Try.func90.trans (congrArg some (by kernel_rfl))⟩
  f57 := ⟨Try.f93.name, by decide, Try.func93.trans (congrArg some (by kernel_rfl))⟩
  t0 := Try.underlying0
  a0 := Try.isAgg0
  z0 := Try.sizeOf0
  v0 := Try.zeroValue0
  t3 := Try.underlying3
  a3 := Try.isAgg3
  z3 := Try.sizeOf3
  v3 := Try.zeroValue3
  t4 := Try.underlying4
  a4 := Try.isAgg4
  z4 := Try.sizeOf4
  v4 := Try.zeroValue4
  t5 := Try.underlying5
  a5 := Try.isAgg5
  z5 := Try.sizeOf5
  v5 := Try.zeroValue5
  t9 := Try.underlying9
  a9 := Try.isAgg9
  z9 := Try.sizeOf9
  v9 := Try.zeroValue9
  t22 := Try.underlying22
  a22 := Try.isAgg22
  z22 := Try.sizeOf22
  v22 := Try.zeroValue22
  t25 := Try.underlying55
  a25 := Try.isAgg55
  z25 := Try.sizeOf55
  v25 := Try.zeroValue55
  t39 := Try.underlying66
  a39 := Try.isAgg66
  z39 := Try.sizeOf66
  v39 := Try.zeroValue66
  t45 := Try.underlying79
  a45 := Try.isAgg79
  z45 := Try.sizeOf79
  v45 := Try.zeroValue79
  t46 := Try.underlying80
  a46 := Try.isAgg80
  z46 := Try.sizeOf80
  v46 := Try.zeroValue80
  t50 := Try.underlying84
  a50 := Try.isAgg84
  z50 := Try.sizeOf84
  v50 := Try.zeroValue84
  t53 := Try.underlying87
  a53 := Try.isAgg87
  z53 := Try.sizeOf87
  v53 := Try.zeroValue87
  t55 := Try.underlying89
  a55 := Try.isAgg89
  z55 := Try.sizeOf89
  v55 := Try.zeroValue89
  t66 := Try.underlying93
  a66 := Try.isAgg93
  z66 := Try.sizeOf93
  v66 := Try.zeroValue93
  t70 := Try.underlying97
  a70 := Try.isAgg97
  z70 := Try.sizeOf97
  v70 := Try.zeroValue97
  t76 := Try.underlying101
  a76 := Try.isAgg101
  z76 := Try.sizeOf101
  v76 := Try.zeroValue101
  t77 := Try.underlying102
  a77 := Try.isAgg102
  z77 := Try.sizeOf102
  v77 := Try.zeroValue102 }
def Try.cmpI_ren : Go.Shelf.Ren := ⟨fun | 5 => 45 | 7 => 66 | n => n, fun | 22 => 2 | 3 => 3 | 4 => 4 | n => n, fun | n => n⟩
theorem Try.cmpI : Go.Proofs.SlLaysC2.n5 Try.prog Try.cmpI_ren := {
  mixed := by kernel_rfl
  f5 := ⟨Try.f45.name, by decide, Try.func45.trans (congrArg some (by kernel_rfl))⟩
  f7 := ⟨Try.f66.name, by decide, Try.func66.trans (congrArg some (by kernel_rfl))⟩
  t3 := Try.underlying3
  a3 := Try.isAgg3
  z3 := Try.sizeOf3
  v3 := Try.zeroValue3
  t4 := Try.underlying4
  a4 := Try.isAgg4
  z4 := Try.sizeOf4
  v4 := Try.zeroValue4
  t22 := Try.underlying2
  a22 := Try.isAgg2
  z22 := Try.sizeOf2
  v22 := Try.zeroValue2 }
def Try.sortI_ren : Go.Shelf.Ren := ⟨fun | 53 => 91 | 64 => 65 | 63 => 94 | 78 => 81 | 79 => 82 | 70 => 95 | 71 => 96 | 72 => 97 | 73 => 98 | 74 => 99 | 75 => 100 | 59 => 101 | 76 => 102 | 77 => 103 | 88 => 104 | 89 => 87 | 90 => 88 | 91 => 105 | 92 => 106 | 68 => 66 | 96 => 107 | n => n, fun | 22 => 67 | 23 => 2 | 3 => 3 | 51 => 66 | 0 => 0 | 67 => 87 | 69 => 89 | 4 => 4 | 61 => 80 | 60 => 79 | 44 => 84 | 5 => 5 | 9 => 9 | 75 => 93 | 79 => 97 | 83 => 101 | 84 => 102 | n => n, fun | n => n⟩
theorem Try.sortI : Go.Proofs.SlLaysN.n53 Try.prog Try.sortI_ren := {
  mixed := by kernel_rfl
  f53 := ⟨Try.f91.name, by decide, Try.func91.trans (congrArg some (by kernel_rfl))⟩
  f59 := ⟨Try.f101.name, by decide, Try.func101.trans (congrArg some (by kernel_rfl))⟩
  f63 := ⟨Try.f94.name, by decide, Try.func94.trans (congrArg some (by kernel_rfl))⟩
  f64 := Try.func65.trans (congrArg some (by kernel_rfl))
  f68 := ⟨Try.f66.name, by decide, Try.func66.trans (congrArg some (by kernel_rfl))⟩
  f70 := ⟨Try.f95.name, by decide, Try.func95.trans (congrArg some (by kernel_rfl))⟩
  f71 := ⟨Try.f96.name, by decide, Try.func96.trans (congrArg some (by kernel_rfl))⟩
  f72 := ⟨Try.f97.name, by decide, Try.func97.trans (congrArg some (by kernel_rfl))⟩
  f73 := ⟨Try.f98.name, by decide, Try.func98.trans (congrArg some (by kernel_rfl))⟩
  f74 := ⟨Try.f99.name, by decide, Try.func99.trans (congrArg some (by kernel_rfl))⟩
  f75 := ⟨Try.f100.name, by decide, Try.func100.trans (congrArg some (by kernel_rfl))⟩
  f76 := ⟨Try.f102.name, by decide, Try.func102.trans (congrArg some (by kernel_rfl))⟩
  f77 := ⟨Try.f103.name, by decide, Try.func103.trans (congrArg some (by kernel_rfl))⟩
  f78 := Try.func81.trans (congrArg some (by kernel_rfl))
  f79 := Try.func82.trans (congrArg some (by kernel_rfl))
  f88 := ⟨Try.f104.name, by decide, Try.func104.trans (congrArg some (by kernel_rfl))⟩
  f89 := Try.func87.trans (congrArg some (by kernel_rfl))
  f90 := Try.func88.trans (congrArg some (by kernel_rfl))
  f91 := ⟨Try.f105.name, by decide, Try.func105.trans (congrArg some (by kernel_rfl))⟩
  f92 := ⟨Try.f106.name, by decide, Try.func106.trans (congrArg some (by kernel_rfl))⟩
  f96 := ⟨Try.f107.name, by decide, Try.func107.trans (congrArg some (by kernel_rfl))⟩
  t0 := Try.underlying0
  a0 := Try.isAgg0
  z0 := Try.sizeOf0
  v0 := Try.zeroValue0
  t3 := Try.underlying3
  a3 := Try.isAgg3
  z3 := Try.sizeOf3
  v3 := Try.zeroValue3
  t4 := Try.underlying4
  a4 := Try.isAgg4
  z4 := Try.sizeOf4
  v4 := Try.zeroValue4
  t5 := Try.underlying5
  a5 := Try.isAgg5
  z5 := Try.sizeOf5
  v5 := Try.zeroValue5
  t9 := Try.underlying9
  a9 := Try.isAgg9
  z9 := Try.sizeOf9
  v9 := Try.zeroValue9
  t22 := Try.underlying67
  a22 := Try.isAgg67
  z22 := Try.sizeOf67
  v22 := Try.zeroValue67
  t23 := Try.underlying2
  a23 := Try.isAgg2
  z23 := Try.sizeOf2
  v23 := Try.zeroValue2
  t44 := Try.underlying84
  a44 := Try.isAgg84
  z44 := Try.sizeOf84
  v44 := Try.zeroValue84
  t51 := Try.underlying66
  a51 := Try.isAgg66
  z51 := Try.sizeOf66
  v51 := Try.zeroValue66
  t60 := Try.underlying79
  a60 := Try.isAgg79
  z60 := Try.sizeOf79
  v60 := Try.zeroValue79
  t61 := Try.underlying80
  a61 := Try.isAgg80
  z61 := Try.sizeOf80
  v61 := Try.zeroValue80
  t67 := Try.underlying87
  a67 := Try.isAgg87
  z67 := Try.sizeOf87
  v67 := Try.zeroValue87
  t69 := Try.underlying89
  a69 := Try.isAgg89
  z69 := Try.sizeOf89
  v69 := Try.zeroValue89
  t75 := Try.underlying93
  a75 := Try.isAgg93
  z75 := Try.sizeOf93
  v75 := Try.zeroValue93
  t79 := Try.underlying97
  a79 := Try.isAgg97
  z79 := Try.sizeOf97
  v79 := Try.zeroValue97
  t83 := Try.underlying101
  a83 := Try.isAgg101
  z83 := Try.sizeOf101
  v83 := Try.zeroValue101
  t84 := Try.underlying102
  a84 := Try.isAgg102
  z84 := Try.sizeOf102
  v84 := Try.zeroValue102 }
def Try.compI_ren : Go.Shelf.Ren := ⟨fun | 43 => 92 | n => n, fun | 22 => 67 | 23 => 2 | 3 => 3 | 4 => 4 | 0 => 0 | n => n, fun | n => n⟩
theorem Try.compI : Go.Proofs.SlLaysN.n43 Try.prog Try.compI_ren := {
  mixed := by kernel_rfl
  f43 := ⟨Try.f92.name, by decide, Try.func92.trans (congrArg some (by kernel_rfl))⟩
  t0 := Try.underlying0
  a0 := Try.isAgg0
  z0 := Try.sizeOf0
  v0 := Try.zeroValue0
  t3 := Try.underlying3
  a3 := Try.isAgg3
  z3 := Try.sizeOf3
  v3 := Try.zeroValue3
  t4 := Try.underlying4
  a4 := Try.isAgg4
  z4 := Try.sizeOf4
  v4 := Try.zeroValue4
  t22 := Try.underlying67
  a22 := Try.isAgg67
  z22 := Try.sizeOf67
  v22 := Try.zeroValue67
  t23 := Try.underlying2
  a23 := Try.isAgg2
  z23 := Try.sizeOf2
  v23 := Try.zeroValue2
  i23 := by kernel_rfl }
end Go.Proofs.Ytoekdjdgeleelaa

namespace Go.DL
open Go.RowKit

/-! ### Operations on exact values -/
section
variable {P : Program} {C : Ctx} {env env' : Nat → D} {H H' : Heap} {o : Oper} {d : D}
/-- What an operand reads as_ may be told otherwise: nil as_ a row of nothing. -/
theorem OpD.weak (h : OpD P C o env' H d H') (hw : ∀ x ∈ o.op.operands, ArgIs (ev env x) (ev env' x)) : OpD P C o env H d H' :=
  ⟨h.len, fun K β a w Kc Q hws hx hk hn => h.go K β a w Kc Q hws (fun x hx' => (hx x hx').arg (hw x hx')) (fun x hx' => by
    rcases hw x hx' with e | ⟨_, e⟩
    · rw [← e]; exact hk x hx'
    · rw [e]; exact .rd _ _) hn⟩
end

/-! ### Cuts of rows of the call's own; strings of parts of them -/
section
variable {P : Program} {C : Ctx} {env : Nat → D} {H : Heap} {dst : Option Nat} {ty t t' e : TypeId} {pos : String} {after : Array Edge} {gu : Option (Nat × Bool)} {X Y : Operand}
theorem cut_bounds {K : Mem} {β : Nat → Nat → BT} {a : Act} {lo hi n : Nat} {yl yh : Option Operand} (hl : bnd env lo yl) (hh : bndH env n hi yh) (h : ∀ x ∈ (Op.slice t X yl yh none).operands, DR K β true (a.eval x) (ev env x)) :
    ((yl.map a.eval = none ∧ lo = 0) ∨ ∃ k, yl.map a.eval = some (.int k (lo : Int))) ∧ ((yh.map a.eval = none ∧ hi = n) ∨ ∃ k, yh.map a.eval = some (.int k (hi : Int))) := by
  constructor
  · cases yl with
    | none => exact .inl ⟨rfl, hl⟩
    | some y =>
      obtain ⟨k, e⟩ := hl
      have := h y (by simp [Op.operands])
      rw [e] at this
      exact .inr ⟨k, by simp [this.v_inv]⟩
  · cases yh with
    | none => exact .inl ⟨rfl, hh⟩
    | some y =>
      obtain ⟨k, e⟩ := hh
      have := h y (by simp [Op.operands])
      rw [e] at this
      exact .inr ⟨k, by simp [this.v_inv]⟩
theorem run_cutO {w : World} {a : Act} {A : Option Addr} {n c lo hi sz : Nat} {yl yh : Option Operand} (ht : P.underlying t = some (.slice e)) (hi' : (P.info? e).map (·.size) = some sz) (eX : a.eval X = .slice A n c)
    (hb : ((yl.map a.eval = none ∧ lo = 0) ∨ ∃ k, yl.map a.eval = some (.int k (lo : Int))) ∧ ((yh.map a.eval = none ∧ hi = n) ∨ ∃ k, yh.map a.eval = some (.int k (hi : Int)))) (h1 : lo ≤ hi) (h2 : hi ≤ c) :
    (execOp a.eval ⟨dst, .slice t X yl yh none, ty, pos, after, gu⟩).run P w = .ok (.value (.slice (if c = lo then A else A.map (·.add (lo * sz))) (hi - lo) (c - lo))) w := by
  have := run_cut (P := P) (w := w) (A := A) ht hi' hb.1 hb.2 h1 h2
  simp only [execOp, eX, Sem.run_bind, Option.map_none, this, Result.andThen_ok, Sem.run_pure]
theorem o_cut_own {id ver off n sz lo hi : Nat} {yl yh : Option Operand} (hx : ev env X = .own id ver off n sz) (hl : bnd env lo yl) (hh : bndH env n hi yh) (ht : P.underlying t = some (.slice e)) (hi' : (P.info? e).map (·.size) = some sz) (h0 : lo = 0 ∨ lo < hi) (h1 : lo ≤ hi) (h2 : hi ≤ n) :
    OpD P C ⟨dst, .slice t X yl yh none, ty, pos, after, gu⟩ env H (.own id ver (off + lo * sz) (hi - lo) sz) H := by
  refine OpD.same fun K β a w hw h hk => ?_
  have hv := h X (by simp [Op.operands])
  have hkx := hk X (by simp [Op.operands])
  rw [hx] at hv hkx
  have hok : okV H id ver := by cases hkx with | own _ _ _ _ _ h => exact h
  have hB := cut_bounds (K := K) (β := β) (a := a) (t := t) hl hh h
  rcases hv.own_inv with ⟨c, e1, hnc, hm, htot, hr⟩ | ⟨e1, ho, hn0, hr⟩
  · refine ⟨_, run_cutO ht hi' e1 hB h1 (Nat.le_trans h2 hnc), ?_, .own _ _ _ _ _ hok⟩
    by_cases hc : c = lo
    · have hlo : lo = 0 := by rcases h0 with h | h <;> omega
      subst hlo; subst hc
      have hn : n = 0 := by omega
      have hhi : hi = 0 := by omega
      subst hn; subst hhi
      rw [if_pos rfl]
      have := DR.own (K := K) (β := β) id ver (off + 0 * sz) 0 sz 0 (Nat.le_refl _) (Nat.zero_le _) (by simpa using htot) hr
      simpa using this
    · rw [if_neg hc]
      simp only [Option.map_some, add_lit]
      refine .own _ _ _ _ _ _ (by omega) (by omega) ?_ hr
      rw [← htot, Nat.sub_mul, Nat.add_assoc]
      congr 1
      exact Nat.add_sub_cancel' (Nat.mul_le_mul_right _ (by omega))
  · subst hn0; subst ho
    have hhi : hi = 0 := by omega
    have hlo : lo = 0 := by omega
    subst hhi; subst hlo
    refine ⟨_, run_cutO ht hi' e1 hB (Nat.le_refl _) (Nat.le_refl _), ?_, .own _ _ _ _ _ hok⟩
    have := DR.own0 (K := K) (β := β) id ver sz hr
    simpa using this
theorem o_cut_empty {id ver off n sz sz' lo : Nat} {yl yh : Option Operand} (hx : ev env X = .own id ver off n sz') (hl : bnd env lo yl) (hh : bndH env n lo yh) (ht : P.underlying t = some (.slice e)) (hi' : (P.info? e).map (·.size) = some sz) (h2 : lo ≤ n) :
    OpD P C ⟨dst, .slice t X yl yh none, ty, pos, after, gu⟩ env H (.rd 0 []) H := by
  refine OpD.same fun K β a w hw h hk => ?_
  have hv := h X (by simp [Op.operands])
  rw [hx] at hv
  have hB := cut_bounds (K := K) (β := β) (a := a) (t := t) hl hh h
  obtain ⟨A, c, e1, hnc⟩ := hv.own_len
  refine ⟨_, run_cutO ht hi' e1 hB (Nat.le_refl _) (Nat.le_trans h2 hnc), ?_, .rd _ _⟩
  rw [Nat.sub_self]
  exact .rd _ _ 0 _ [] [] (Nat.zero_le _) rfl (by simp) (by simp)
end

/-! ### Appends, whatever is appended -/
section
variable {P : Program} {C : Ctx} {env : Nat → D} {H : Heap} {dst : Option Nat} {ty t t' e : TypeId} {pos : String} {after : Array Edge} {gu : Option (Nat × Bool)} {X Y : Operand}
/-- What is appended: so many elements, these cells. -/
def Src (P : Program) (C : Ctx) (t t' ty e : TypeId) (sz bytes : Nat) (H : Heap) (dy : D) (m : Nat) (cs' : List D) : Prop :=
  ∀ K β w x, WS C K β H w → DR K β true x dy → OkD H dy → ∃ news : List Value, news.length = m * sz ∧ news.length = cs'.length ∧ (∀ (j : Nat) u d, news[j]? = some u → cs'[j]? = some d → DR K β true u d) ∧ (∀ d ∈ cs', OkD H d) ∧
    ∀ v n xs, w.ownsRow 0 e sz v n xs → n + m ≤ maxLen → (n + m) * bytes ≤ 140737488355328 → ∃ u' w', (Builtin.append_ #[t, t'] ty #[v, x]).run P w = .ok u' w' ∧ w'.ownsRow 0 e sz u' (n + m) (xs ++ news) ∧ w.grownBy w' v.ownBlock ∧ (u'.ownBlock = v.ownBlock ∨ u'.ownBlock = some w.heap.size)
theorem app_core {v' : Nat} {K : Mem} {β : Nat → Nat → BT} {w : World} {id ver n sz m : Nat} {b : Blk} {cs' : List D} {v x : Value} (hw : WS C K β H w) (hv : DR K β true v (.own id ver 0 n sz)) (hb : H[id]? = some (some b)) (hver : b.ver = ver) (hv' : ver < v') (hn : n * sz ≤ b.cs.length)
    (news : List Value) (hl : news.length = m * sz) (hds : news.length = cs'.length) (hdr : ∀ (j : Nat) u d, news[j]? = some u → cs'[j]? = some d → DR K β true u d) (hok : ∀ d ∈ cs', OkD H d)
    (hrunX : ∀ xs, w.ownsRow 0 b.e sz v n xs → ∃ u' w', (Builtin.append_ #[t, t'] ty #[v, x]).run P w = .ok u' w' ∧ w'.ownsRow 0 b.e sz u' (n + m) (xs ++ news) ∧ w.grownBy w' v.ownBlock ∧ (u'.ownBlock = v.ownBlock ∨ u'.ownBlock = some w.heap.size)) :
    ∃ u' w' t1, (Builtin.append_ #[t, t'] ty #[v, x]).run P w = .ok u' w' ∧ WS C K (addB β id v' t1) (H.set id (some ⟨b.cs.take (n * sz) ++ cs', b.e, true, v'⟩)) w' ∧ DR K (addB β id v' t1) true u' (.own id v' 0 (n + m) sz) := by
  subst hver
  have hrows : ∃ xs : List Value, w.ownsRow 0 b.e sz v n xs ∧ xs.length = n * sz ∧ (∀ (j : Nat) u d, xs[j]? = some u → (b.cs.take (n * sz))[j]? = some d → DR K β true u d) ∧ (∀ k, v.ownBlock = some k → (β id b.ver).real = true ∧ k = (β id b.ver).blk) := by
    rcases hv.own_inv with ⟨c, rfl, hnc, hm, htot, hr⟩ | ⟨rfl, _, h0, hr⟩
    · obtain ⟨us, rest, hh, hlen, htot', _, hd⟩ := hw.real hb hr
      refine ⟨us.take (n * sz), ⟨by rw [List.length_take]; omega, .inr ⟨_, c, _, rfl, Nat.zero_le _, hh, hnc, hm, by simp; omega, ?_⟩⟩, by rw [List.length_take]; omega, fun j u d hu hd' => ?_, fun k hk => ?_⟩
      · simp only []
        rw [List.take_append_of_le_length (by omega)]
      · rw [List.getElem?_take] at hu hd'
        split at hu
        · rw [if_pos (by assumption)] at hd'; exact hd j u d hu hd'
        · cases hu
      · simp [Value.ownBlock] at hk; exact ⟨BT.real_of hr, hk.symm⟩
    · subst h0
      exact ⟨[], ⟨by simp, .inl ⟨rfl, rfl⟩⟩, by simp, by simp, fun k hk => by simp [Value.ownBlock] at hk⟩
  obtain ⟨xs, hown, hxl, hxd, hblk⟩ := hrows
  obtain ⟨u', w', hrun, hown', hgrow, hat⟩ := hrunX xs hown
  have hcells : (xs ++ news).length = (b.cs.take (n * sz) ++ cs').length := by rw [List.length_append, List.length_append, List.length_take]; omega
  have hcd : ∀ (j : Nat) u d, (xs ++ news)[j]? = some u → (b.cs.take (n * sz) ++ cs')[j]? = some d → DR K β true u d := by
    intro j u d hu hd
    have hlt : (b.cs.take (n * sz)).length = n * sz := by rw [List.length_take]; omega
    by_cases hj : j < n * sz
    · rw [List.getElem?_append_left (by omega)] at hu hd; exact hxd j u d hu hd
    · rw [List.getElem?_append_right (by omega), hxl] at hu
      rw [List.getElem?_append_right (by omega), hlt] at hd
      exact hdr _ u d hu hd
  have hoc : ∀ d ∈ b.cs.take (n * sz) ++ cs', OkD H d := by
    intro d hd
    rcases List.mem_append.1 hd with hd | hd
    · exact hw.ok id b hb d (List.mem_of_mem_take hd)
    · exact hok d hd
  rcases hown'.2 with ⟨rfl, h0⟩ | ⟨g, cap, cur, rfl, hBg, hheap, hncap, hmax, hcur, htake⟩
  · have hn0 : n = 0 := by omega
    have hm0 : m = 0 := by omega
    subst hn0 hm0
    have hcs0 : cs' = [] := List.eq_nil_of_length_eq_zero (by rw [← hds, hl]; simp)
    subst hcs0
    refine ⟨_, w', ⟨0, 0, .none⟩, hrun, ?_, ?_⟩
    · exact hw.grow hb hv' hgrow hblk _ ⟨0, 0, .none⟩ (.inl ⟨rfl, by simp⟩) hoc
    · exact .own0 _ _ _ (by rw [addB_at])
  · refine ⟨_, w', ⟨g, cap * sz, .cells⟩, hrun, ?_, ?_⟩
    · refine hw.grow hb hv' hgrow hblk _ ⟨g, cap * sz, .cells⟩ (.inr ⟨rfl, ?_, xs ++ news, cur.toList.drop ((n + m) * sz), ?_, hcells, ?_, hcd⟩) hoc
      · rcases hat with h | h
        · exact .inl (by rw [← h]; rfl)
        · simp [Value.ownBlock] at h; exact .inr h
      · rw [hheap, ← htake, List.take_append_drop]
      · have h5 : (n + m) * sz ≤ cap * sz := Nat.mul_le_mul_right _ hncap
        rw [← htake, List.length_take, List.length_drop, Array.length_toList, hcur]
        show min ((n + m) * sz) (cap * sz) + (cap * sz - (n + m) * sz) = cap * sz
        generalize (n + m) * sz = p at *
        generalize cap * sz = q at *
        omega
    · have := DR.own (K := K) (β := addB β id (v') ⟨g, cap * sz, .cells⟩) id (v') 0 (n + m) sz cap hncap hmax (by rw [addB_at]; simp) (by rw [addB_at])
      rw [addB_at] at this; exact this
/-- An append onto a row of the call's own. -/
theorem o_appG (v' : Nat) {id ver n sz bytes m : Nat} {b : Blk} {cs' : List D} {dy : D} (hx : ev env X = .own id ver 0 n sz) (hy : ev env Y = dy) (hS : Src P C t t' ty e sz bytes H dy m cs') (hb : H[id]? = some (some b)) (hver : b.ver = ver) (he : b.e = e) (hv' : ver < v') (hn : n * sz ≤ b.cs.length)
    (h63 : n + m ≤ 9223372036854775807) (hby : (n + m) * bytes ≤ 140737488355328) :
    OpD P C ⟨dst, .call { callee := .builtin .append, args := #[X, Y], argTypes := #[t, t'] }, ty, pos, after, gu⟩ env H (.own id v' 0 (n + m) sz) (H.set id (some ⟨b.cs.take (n * sz) ++ cs', e, true, v'⟩)) := by
  have hle : HLe H (H.set id (some ⟨b.cs.take (n * sz) ++ cs', e, true, v'⟩)) := HLe.set hb (by simp; omega)
  refine OpD.of hle fun K β ac w hw h hk => ?_
  have hxv := h X (by simp [Op.operands, Call.operands])
  have hyv := h Y (by simp [Op.operands, Call.operands])
  have hyk := hk Y (by simp [Op.operands, Call.operands])
  rw [hx] at hxv; rw [hy] at hyv hyk
  obtain ⟨news, l1, l2, l3, l4, l5⟩ := hS K β w _ hw hyv hyk
  subst he
  obtain ⟨u', w', t1, hrun, hws, hdr⟩ := app_core (P := P) (t := t) (t' := t') (ty := ty) (cs' := cs') hw hxv hb hver hv' hn news l1 l2 l3 l4 (fun xs h1 => l5 _ n xs h1 h63 hby)
  subst hver
  refine ⟨K, _, u', w', ?_, KX.refl _ _, addB_agr' hb hv', hws, hdr, .own _ _ _ _ _ ?_⟩
  · simp only [execOp, resolve, invoke, builtin, Sem.run_bind, Sem.run_pure, Result.andThen_ok, List.map_toArray, List.map_cons, List.map_nil, hrun]
  · unfold okV
    rw [List.getElem?_set, if_pos rfl, if_pos (List.getElem?_eq_some_iff.1 hb).1]
    exact Nat.le_refl _
theorem o_appGN {sz bytes m : Nat} {cs' : List D} {dy : D} (hx : ev env X = .v (.slice none 0 0)) (hy : ev env Y = dy) (hS : Src P C t t' ty e sz bytes H dy m cs') (h63 : m ≤ 9223372036854775807) (hby : m * bytes ≤ 140737488355328) :
    OpD P C ⟨dst, .call { callee := .builtin .append, args := #[X, Y], argTypes := #[t, t'] }, ty, pos, after, gu⟩ env H (.own H.length 1 0 m sz) (H ++ [some ⟨cs', e, true, 1⟩]) := by
  refine OpD.of (HLe.app _ _) fun K β ac w hw h hk => ?_
  have hxv := h X (by simp [Op.operands, Call.operands])
  have hyv := h Y (by simp [Op.operands, Call.operands])
  have hyk := hk Y (by simp [Op.operands, Call.operands])
  rw [hx] at hxv; rw [hy] at hyv hyk
  obtain ⟨news, l1, l2, l3, l4, l5⟩ := hS K β w _ hw hyv hyk
  have hw' := hw.newNil e
  have hat : (addB β H.length 0 ⟨0, 0, .none⟩) H.length 0 = ⟨0, 0, .none⟩ := addB_at
  have hb : (H ++ [some (⟨[], e, true, 0⟩ : Blk)])[H.length]? = some (some ⟨[], e, true, 0⟩) := by rw [List.getElem?_append_right (Nat.le_refl _)]; simp
  have hv0 : DR K (addB β H.length 0 ⟨0, 0, .none⟩) true (.slice none 0 0) (.own H.length 0 0 0 sz) := .own0 _ _ _ (by rw [hat])
  obtain ⟨u', w', t1, hrun, hws, hdr⟩ := app_core (P := P) (t := t) (t' := t') (ty := ty) (cs' := cs') (v' := 1) hw' hv0 hb rfl (Nat.zero_lt_one) (by simp) news l1 l2 (fun j u d hu hd => (l3 j u d hu hd).mono (Mem.le.refl K) (fun _ => l4 d (List.mem_of_getElem? hd)) addB_agr) (fun d hd => (l4 d hd).mono (HLe.app _ _))
    (fun xs h1 => l5 _ 0 xs h1 (by rw [Nat.zero_add]; exact h63) (by rw [Nat.zero_add]; exact hby))
  have hset : (H ++ [some (⟨[], e, true, 0⟩ : Blk)]).set H.length (some ⟨([] : List D).take (0 * sz) ++ cs', e, true, 1⟩) = H ++ [some ⟨cs', e, true, 1⟩] := by
    rw [List.set_append_right _ _ (Nat.le_refl _)]; simp
  rw [hset] at hws
  rw [Nat.zero_add] at hdr
  refine ⟨K, _, u', w', ?_, KX.refl _ _, fun i v hv => ?_, hws, hdr, .own _ _ _ _ _ (okV_new _ _)⟩
  · simp only [execOp, resolve, List.map_toArray, List.map_cons, List.map_nil, hxv.v_inv, invoke, builtin, Sem.run_bind, Sem.run_pure, Result.andThen_ok, hrun]
  · have hlt := hv.lt
    rw [addB_ne (.inl (by omega)), addB_ne (.inl (by omega))]
theorem Elem.parts {sz bytes : Nat} (E : Elem P t e sz bytes) {w : World} {A : Option Addr} {m c : Nat} {news : List Value} (hl : news.length = m * sz) (hcell : ∀ (j : Nat) u, news[j]? = some u → ∃ ad, A = some ad ∧ w.cell? (ad.add j) = some u) (h1 : ∀ u ∈ news, u.oneCell' = true)
    (v : Value) (n : Nat) (xs : List Value) (hown : w.ownsRow 0 e sz v n xs) (h63 : n + m ≤ maxLen) (hby : (n + m) * bytes ≤ 140737488355328) :
    ∃ u' w', (Builtin.append_ #[t, t] ty #[v, .slice A m c]).run P w = .ok u' w' ∧ w'.ownsRow 0 e sz u' (n + m) (xs ++ news) ∧ w.grownBy w' v.ownBlock ∧ (u'.ownBlock = v.ownBlock ∨ u'.ownBlock = some w.heap.size) := by
  obtain ⟨i, z, hi, hz, hsz, hbs, hzs⟩ := E.inf
  exact run_append_any (P := P) (w := w) 0 t ty e i z sz bytes E.ut hi hz hsz hbs hzs E.pos v n xs hown A m c news hl hcell h1 h63 hby (Nat.zero_le _)
theorem src_rd {sz bytes m : Nat} {cs' : List D} (E : Elem P t e sz bytes) (hm : cs'.length = m * sz) (h1 : ∀ d ∈ cs', oneD d = true) : Src P C t t ty e sz bytes H (.rd m cs') m cs' := by
  intro K β w x hw hyv _
  obtain ⟨A, c, us, rfl, hmc, hlen, hc, hd⟩ := hyv.rd_inv
  refine ⟨us, by omega, hlen, fun j u d hu hd' => (hd j u d hu hd').up rfl, fun d hd' => ?_, fun v n xs hown h63 hby => E.parts (by omega) (fun j u hu => let ⟨ad, h1, h2⟩ := hc j u hu; ⟨ad, h1, hw.cell h2⟩) (fun u hu => ?_) v n xs hown h63 hby⟩
  · obtain ⟨j, hj⟩ := List.getElem?_of_mem hd'
    have hlt : j < us.length := by rw [hlen]; exact (List.getElem?_eq_some_iff.1 hj).1
    exact (hd j _ d (List.getElem?_eq_getElem hlt) hj).okp rfl
  · obtain ⟨j, hj⟩ := List.getElem?_of_mem hu
    have hlt : j < cs'.length := by rw [← hlen]; exact (List.getElem?_eq_some_iff.1 hj).1
    exact oneD.val (hd j u _ hj (List.getElem?_eq_getElem hlt)) (h1 _ (List.getElem_mem hlt))
theorem src_own {sz bytes m id2 ver2 off : Nat} {b2 : Blk} {cs' : List D} (E : Elem P t e sz bytes) (hb2 : H[id2]? = some (some b2)) (hver2 : b2.ver = ver2) (hm2 : off + m * sz ≤ b2.cs.length) (hcs : (b2.cs.drop off).take (m * sz) = cs') (h1 : ∀ d ∈ cs', oneD d = true) :
    Src P C t t ty e sz bytes H (.own id2 ver2 off m sz) m cs' := by
  intro K β w x hw hyv _
  subst hver2 hcs
  have hok : ∀ d ∈ (b2.cs.drop off).take (m * sz), OkD H d := fun d hd' => hw.ok id2 b2 hb2 d (List.mem_of_mem_drop (List.mem_of_mem_take hd'))
  rcases hyv.own_inv with ⟨c, rfl, hmc, _, _, hr2⟩ | ⟨rfl, h2, h3, hr⟩
  · obtain ⟨us, rest, hh, hlen, _, _, hd⟩ := hw.real hb2 hr2
    refine ⟨(us.drop off).take (m * sz), by simp [hlen]; omega, by simp [hlen], fun j u d hu hd' => ?_, hok, fun v n xs hown h63 hby => E.parts (by simp [hlen]; omega) (fun j u hu => ⟨_, rfl, ?_⟩) (fun u hu => ?_) v n xs hown h63 hby⟩
    · rw [List.getElem?_take] at hu hd'
      split at hu
      · rw [if_pos (by assumption), List.getElem?_drop] at hd'
        rw [List.getElem?_drop] at hu
        exact hd _ u d hu hd'
      · cases hu
    · rw [List.getElem?_take] at hu
      split at hu
      · rw [List.getElem?_drop] at hu
        rw [add_lit, cell_at hh, List.getElem?_append_left (List.getElem?_eq_some_iff.1 hu).1]; exact hu
      · cases hu
    · obtain ⟨j, hj⟩ := List.getElem?_of_mem hu
      rw [List.getElem?_take] at hj
      split at hj
      · rename_i hlt
        rw [List.getElem?_drop] at hj
        have h2 : off + j < b2.cs.length := by rw [← hlen]; exact (List.getElem?_eq_some_iff.1 hj).1
        refine oneD.val (hd _ u _ hj (List.getElem?_eq_getElem h2)) (h1 _ ?_)
        exact List.mem_of_getElem? (show ((b2.cs.drop off).take (m * sz))[j]? = _ by rw [List.getElem?_take, if_pos hlt, List.getElem?_drop, List.getElem?_eq_getElem h2])
      · cases hj
  · have h0 := hw.nil hb2 hr
    subst h3
    refine ⟨[], by simp, by simp, by simp, hok, fun v n xs hown h63 hby => E.parts (by simp) (by simp) (by simp) v n xs hown h63 hby⟩
end
end Go.DL
namespace Go.DL
open Go.RowKit

theorem flatK_get {α : Type} [Inhabited α] {enc : α → List Value} {k : Nat} (hk : ∀ x, (enc x).length = k) : ∀ (l : List α) (t : Nat), t < l.length * k → (l.flatMap enc)[t]? = some (enc (l[t / k]!))[t % k]!
  | [], t, h => by simp at h
  | x :: l, t, h => by
    have k0 : 0 < k := by
      rcases Nat.eq_zero_or_pos k with h0 | h0
      · subst h0; simp at h
      · exact h0
    rw [List.flatMap_cons]
    by_cases ht : t < k
    · rw [List.getElem?_append_left (by rw [hk]; exact ht), Nat.div_eq_of_lt ht, Nat.mod_eq_of_lt ht, List.getElem?_eq_getElem (by rw [hk]; exact ht)]
      simp [hk, ht]
    · have hs : t - k < l.length * k := by
        rw [List.length_cons, Nat.add_mul, Nat.one_mul] at h; omega
      rw [List.getElem?_append_right (by rw [hk]; omega), hk, flatK_get hk l (t - k) hs]
      have e1 : t / k = (t - k) / k + 1 := by
        have : t = (t - k) + k := by omega
        conv => lhs; rw [this, Nat.add_div_right _ k0]
      have e2 : t % k = (t - k) % k := by
        have : t = (t - k) + k := by omega
        conv => lhs; rw [this, Nat.add_mod_right]
      rw [e1, e2]
      simp
theorem lenK {α : Type} {enc : α → List Value} {k : Nat} (hk : ∀ x, (enc x).length = k) (l : List α) : (l.flatMap enc).length = l.length * k := by
  induction l with
  | nil => simp
  | cons x l ih => rw [List.flatMap_cons, List.length_append, hk, ih, List.length_cons, Nat.add_mul, Nat.one_mul, Nat.add_comm]
theorem flatK_eq {α : Type} [Inhabited α] {enc : α → List Value} {k : Nat} (hk : ∀ x, (enc x).length = k) (l : List α) : Sort.flatK enc k l.toArray = (l.flatMap enc).toArray := by
  have hlen := lenK hk l
  refine Sort.ext_get! (by rw [Sort.size_flatK]; simp [hlen]) fun t ht => ?_
  have ht' : t < l.length * k := by simpa using ht
  rw [Sort.get_flatK _ _ _ _ (by simpa using ht')]
  have := flatK_get hk l t ht'
  rw [getElem!_pos (l.flatMap enc).toArray t (by simp [hlen]; exact ht')]
  rw [List.getElem?_eq_getElem (by rw [hlen]; exact ht')] at this
  have h2 := (Option.some.inj this).symm
  rw [List.getElem_toArray, ← h2]
  have h3 : t / k < l.length := Nat.div_lt_of_lt_mul (by rw [Nat.mul_comm]; exact ht')
  rw [getElem!_pos l.toArray (t / k) (by simpa using h3), getElem!_pos l (t / k) h3, List.getElem_toArray]
theorem flat_dv {α : Type} (enc : α → List Value) (l : List α) : (l.flatMap fun x => (enc x).map D.v) = (l.flatMap enc).map D.v := by
  induction l with
  | nil => rfl
  | cons x l ih => rw [List.flatMap_cons, List.flatMap_cons, List.map_append, ih]
/-- What such a call hands back: nothing, or the row's first m elements. -/
def rowV (res : Option Nat) (p : Option Addr) (c : Nat) : Value := match res with | none => .tuple #[] | some m => .slice p m c
def rowD (res : Option Nat) (ver k : Nat) : D := match res with | none => .tup [] | some m => .own 0 ver 0 m k
theorem FunM.rowCall {P : Program} {f : FuncId} {α : Type} [Inhabited α] (k : Nat) (enc : α → List Value) (hk : ∀ x, (enc x).length = k) (e : TypeId) (xs : List Value) (l l' : List α) (hlen : l'.length = l.length) (res : Option Nat) (hres : ∀ m, res = some m → m ≤ l.length)
    (h0 : ∀ (w : World) (p : Option Addr) (c : Nat), l = [] → Calls P f (Value.slice p 0 c :: xs).toArray w fun e w' => e = .returned (rowV res p c) ∧ w' = w)
    (h1 : ∀ (w : World) (blk cap : Nat), Sort.HoldsK enc k w blk 0 l.toArray → blk < w.heap.size → l.length ≤ cap → Calls P f (Value.slice (some ⟨blk, 0, none⟩) l.length cap :: xs).toArray w fun e w' => e = .returned (rowV res (some ⟨blk, 0, none⟩) cap) ∧ ∃ n os, w' = Proofs.sortWorldK enc k w blk 0 n l'.toArray os) :
    FunM P f (ow 0 l.length k :: xs.map D.v) [tb e l.length (l.flatMap fun x => (enc x).map D.v)] (fun o H' => o = .ret (rowD res l.length k) ∧ H' = [tb e l.length (l'.flatMap fun x => (enc x).map D.v)]) := by
  intro K β w vs hw hl hv ho
  obtain ⟨v0, vs', rfl⟩ : ∃ v0 vs', vs = v0 :: vs' := by
    cases vs with
    | nil => simp at hl
    | cons a b => exact ⟨a, b, rfl⟩
  have hxs : vs' = xs := by
    refine List.ext_getElem (by simpa using hl) fun j h1 h2 => ?_
    have := hv (j + 1) vs'[j] (.v xs[j]) (by simp [h1]) (by simp [h2])
    exact this.v_inv
  subst hxs
  have hv0 := hv 0 v0 _ rfl rfl
  rcases hv0.own_inv with ⟨c, e1, hnc, hm, htot, hr⟩ | ⟨e1, ho0, hn0, hr⟩
  · have hb : ([tb e l.length (l.flatMap fun x => (enc x).map D.v)] : Heap)[0]? = some (some ⟨l.flatMap fun x => (enc x).map D.v, e, true, l.length⟩) := rfl
    obtain ⟨us, rest, hh, hlu, htot', hg, hrd⟩ := hw.real hb hr
    have hus : us = l.flatMap enc := by
      refine List.ext_getElem (by rw [hlu, flat_dv, List.length_map]) fun j h1 h2 => ?_
      have := hrd j us[j] (.v (l.flatMap enc)[j]) (List.getElem?_eq_getElem h1) (by rw [flat_dv, List.getElem?_map, List.getElem?_eq_getElem h2]; rfl)
      exact this.v_inv
    subst hus
    have hblk := hw.lt hb (BT.real_of hr)
    have hH : Sort.HoldsK enc k w (β 0 l.length).blk 0 l.toArray := by
      unfold Sort.HoldsK
      rw [flatK_eq hk]
      intro j hj
      have hj' : j < (l.flatMap enc).length := by simpa using hj
      constructor
      · rw [Nat.zero_add, cell_at hh, List.getElem?_append_left hj', List.getElem?_eq_getElem hj', getElem!_pos _ j (by simpa using hj')]; rfl
      · unfold World.frozen?; rw [hh]; simp
    subst e1
    refine (h1 w _ c hH hblk hnc).mono fun e' w' ⟨he, n, os, hw'⟩ => ?_
    have hrl' : (β 0 l.length).st = .cells := hr
    -- the new world
    have hD : WS (given K β _ w) K β _ (w.drewN n) := hw.ext (Mem.le.refl K) (fun _ _ h => .inl h) hw.holds ⟨rfl, rfl, rfl, Nat.le_refl _, fun _ _ => rfl⟩
    have hlen2 : (l'.flatMap enc).length = (l.flatMap enc).length := by rw [lenK hk, lenK hk, hlen]
    have hP := hD.put hb hrl' (l'.flatMap fun x => (enc x).map D.v) (l'.flatMap enc) rest (by rw [flat_dv, List.length_map]) (by rw [hlen2]; exact htot') hg
      (fun j u d hu hd => by
        rw [flat_dv, List.getElem?_map, hu] at hd
        cases hd; exact .v _ _) (fun c hc => by
        rw [flat_dv] at hc
        obtain ⟨v, _, rfl⟩ := List.mem_map.1 hc
        exact .v _)
    have hset : Sort.putRowK enc k (Sort.ahead w n) (β 0 l.length).blk 0 l'.toArray = (w.drewN n).setRow (β 0 l.length).blk (l'.flatMap enc ++ rest).toArray := by
      unfold Sort.putRowK Sort.putRow Sort.mapBlock World.setRow
      rw [flatK_eq hk]
      have hX : ∀ A B : Array Obj, A = B → ({ Sort.ahead w n with heap := A } : World) = { w.drewN n with heap := B } := fun A B h => by subst h; rfl
      refine hX _ _ ?_
      apply Array.ext_getElem?
      intro i
      show (w.heap.modify _ _)[i]? = (w.heap.modify _ _)[i]?
      rw [Array.getElem?_modify, Array.getElem?_modify]
      by_cases hi : (β 0 l.length).blk = i
      · rw [if_pos hi, if_pos hi, ← hi, hh]
        simp only [Option.map_some, Sort.onCells]
        congr 2
        apply Array.ext_getElem?
        intro j
        simp only [Sort.putCells, Array.getElem?_mapIdx, List.getElem?_toArray, Nat.zero_le, true_and, Nat.zero_add, Nat.sub_zero, id, List.size_toArray]
        by_cases hj : j < (l'.flatMap enc).length
        · rw [List.getElem?_append_left (by omega), List.getElem?_append_left hj, List.getElem?_eq_getElem (by omega), List.getElem?_eq_getElem hj, Option.map_some, if_pos hj, getElem!_pos _ j (by simpa using hj)]; rfl
        · rw [List.getElem?_append_right (by omega), List.getElem?_append_right (by omega), hlen2]
          cases rest[j - (l.flatMap enc).length]? with
          | none => rfl
          | some x => rw [Option.map_some, if_neg (by rw [← hlen2]; exact hj)]
      · rw [if_neg hi, if_neg hi]
    have hw2 : w' = Sort.grow ((w.drewN n).setRow (β 0 l.length).blk (l'.flatMap enc ++ rest).toArray) os := by
      rw [hw', ← hset]; rfl
    have hG : WS (given K β _ w) K β _ w' := hP.ext (Mem.le.refl K) (fun _ _ h => .inl h) (fun b o hb' => by
        have h5 := hP.holds b o hb'
        rw [hw2]
        show (_ ++ os)[b]? = _
        rw [Array.getElem?_append_left (Array.getElem?_eq_some_iff.1 h5).1]; exact h5)
      (by
        rw [hw2]
        refine ⟨rfl, rfl, rfl, ?_, fun b hb' => ?_⟩
        · show _ ≤ (_ ++ os).size
          rw [Array.size_append]; exact Nat.le_add_right _ _
        · show (_ ++ os)[b]? = _
          rw [Array.getElem?_append_left hb'])
    have hle := HLe.set hb (b' := ⟨l'.flatMap fun x => (enc x).map D.v, e, true, l.length⟩) (Nat.le_refl _)
    refine ⟨_, rowD res l.length k, K, β, [tb e l.length (l'.flatMap fun x => (enc x).map D.v)], ⟨KX.refl _ _, Agr.refl _ _, hle⟩, hG, ?_, ?_, .inl ⟨he, rfl, rfl⟩⟩
    · unfold rowV rowD
      cases hr' : res with
      | none => exact .tup _ [] [] rfl (by simp)
      | some m => exact .own 0 l.length 0 m k c (Nat.le_trans (hres m hr') hnc) hm htot hr
    · unfold rowD
      cases hr' : res with
      | none => exact .tup _ (by simp)
      | some m => exact .own _ _ _ _ _ (Nat.le_refl _)
  · subst e1
    have hl0 : l = [] := List.eq_nil_of_length_eq_zero hn0
    have hl1 : l' = [] := List.eq_nil_of_length_eq_zero (by rw [hlen, hl0]; rfl)
    subst hl0 hl1
    refine (h0 w none 0 rfl).mono fun e' w' ⟨he, hw'⟩ => ?_
    subst hw'
    refine ⟨_, rowD res 0 k, K, β, _, ⟨KX.refl _ _, Agr.refl _ _, HLe.refl _⟩, hw, ?_, ?_, .inl ⟨he, rfl, rfl⟩⟩
    · unfold rowV rowD
      cases hr' : res with
      | none => exact .tup _ [] [] rfl (by simp)
      | some m =>
        obtain rfl : m = 0 := by have := hres m hr'; simpa using this
        exact .own0 _ _ _ hr
    · unfold rowD
      cases hr' : res with
      | none => exact .tup _ (by simp)
      | some m => exact .own _ _ _ _ _ (Nat.le_refl _)
theorem FunM.sortRow {P : Program} {f : FuncId} {α : Type} [Inhabited α] (k : Nat) (enc : α → List Value) (hk : ∀ x, (enc x).length = k) (e : TypeId) (xs : List Value) (l l' : List α) (hlen : l'.length = l.length)
    (h0 : ∀ (w : World) (p : Option Addr) (c : Nat), l = [] → Calls P f (Value.slice p 0 c :: xs).toArray w fun e w' => e = .returned (.tuple #[]) ∧ w' = w)
    (h1 : ∀ (w : World) (blk cap : Nat), Sort.HoldsK enc k w blk 0 l.toArray → blk < w.heap.size → Calls P f (Value.slice (some ⟨blk, 0, none⟩) l.length cap :: xs).toArray w fun e w' => e = .returned (.tuple #[]) ∧ ∃ n os, w' = Proofs.sortWorldK enc k w blk 0 n l'.toArray os) :
    FunM P f (ow 0 l.length k :: xs.map D.v) [tb e l.length (l.flatMap fun x => (enc x).map D.v)] (fun o H' => o = .ret (.tup []) ∧ H' = [tb e l.length (l'.flatMap fun x => (enc x).map D.v)]) :=
  FunM.rowCall k enc hk e xs l l' hlen none (fun _ h => by cases h) h0 fun w blk cap a b _ => h1 w blk cap a b
end Go.DL
namespace Go.Proofs.Ytoekdjdgeleelaa
open Go.RowKit Go.DL

def encP (x : Sp) : List Value := [.int .i64 x.1, .int .i64 x.2]
def cmpF (x y : Sp) : Int := Lib.compareInt x.1 y.1
theorem ltF (x y : Sp) : ltOf cmpF x y = decide (x.1 < y.1) := by
  unfold ltOf cmpF Lib.compareInt
  by_cases h1 : x.1 < y.1
  · simp [h1]
  · by_cases h2 : y.1 < x.1 <;> simp [h1, h2]
theorem swoF : Sort.SWO (ltOf cmpF) where
  irrefl x := by rw [ltF]; simp
  trans x y z h1 h2 := by rw [ltF] at *; simp at *; omega
  ntrans x y z h1 h2 := by rw [ltF] at *; simp at *; omega
set_option maxHeartbeats 1000000 in
theorem clos44 (x y : Sp) (W : World) : Calls Try.prog 44 #[.agg (encP x).toArray, .agg (encP y).toArray] W fun e w' => e = .returned (.int .i64 (cmpF x y)) ∧ ∃ q os', w' = Sort.grow (W.drewN q) os' := by
  have hcon := fun W' => AnyG.cmp_Compare_int Try.cmpI x.1 y.1 W'
  change ∀ W', Calls Try.prog 45 _ _ _ at hcon
  unfold cmpF encP
  generalize Lib.compareInt x.1 y.1 = r at hcon ⊢
  go_enter Try.func44, Try.ntmps44
  go_wp2_with (go_at_call 45; refine (hcon _).mono ?_; rintro e w' ⟨rfl, rfl⟩)
  go_ret
  exact ⟨rfl, 0, _, by rw [Sort.alloc_eq_grow, Sort.alloc_eq_grow, Sort.grow_grow]; rfl⟩
/-- What the library makes of a list of spans. -/
def sortP (l : List Sp) : List Sp := (Sort.pdq (ltOf cmpF) l.toArray 0 l.toArray.size (Lib.bitLen l.toArray.size) true true).toList
theorem sortP_is (l : List Sp) : Sort.PermIn 0 l.toArray.size l.toArray (sortP l).toArray ∧ Sort.SortedIn (ltOf cmpF) 0 l.toArray.size (sortP l).toArray := by
  have := Sort.pdq_sorts (ltOf cmpF) swoF l.toArray 0 l.toArray.size (Lib.bitLen l.toArray.size) true true (Nat.zero_le _) (Nat.le_refl _) (Or.inl rfl)
  simpa only [sortP, Array.toArray_toList] using this
theorem sortP_perm (l : List Sp) : (sortP l).Perm l := by
  have h := (sortP_is l).1
  have h1 := h.1
  have h2 := h.2.2
  have e1 : (sortP l).length = l.length := by simpa using h1
  have e2 : (sortP l).take l.length = sortP l := List.take_of_length_le (by omega)
  simpa [e2] using h2
theorem sortP_len (l : List Sp) : (sortP l).length = l.length := (sortP_perm l).length_eq
theorem sortP_le (l : List Sp) (i j : Nat) (hij : i < j) (hj : j < (sortP l).length) : ((sortP l)[i]'(by omega)).1 ≤ ((sortP l)[j]).1 := by
  have h := (sortP_is l).2 i j (Nat.zero_le _) hij (by simpa [sortP_len] using hj)
  rw [ltF] at h
  have hi : i < (sortP l).length := by omega
  rw [getElem!_pos _ j (by simpa using hj), getElem!_pos _ i (by simpa using hi)] at h
  simp at h
  exact h
theorem sort_c (l : List Sp) (hl : l.length ≤ 1099511627776) : FunM Try.prog 43 [ow 0 l.length 2, .v (.func (.func 44) #[] #[])] [tb 36 l.length (l.flatMap pc)] (fun o H' => o = .ret (.tup []) ∧ H' = [tb 36 l.length ((sortP l).flatMap pc)]) := by
  have e1 : ∀ x : Sp, (encP x).length = 2 := fun _ => rfl
  have hs : ∀ w, (isAgg 36).run Try.prog w = .ok true w := fun w => run_isAgg_deep Try.underlying36 rfl w
  have hz : ∀ w, (Go.sizeOf 36).run Try.prog w = .ok 2 w := fun w => by
    obtain ⟨i, h1, h2⟩ := Option.map_eq_some_iff.1 (sz_of Ty.inf36)
    simp [Go.sizeOf, typeInfo, h1, h2]
  have eg : ∀ args w, (callFunc 44 args).run Try.prog w = .ok (.enter 44 args) w := enters_of Try.func44 (by kernel_rfl) rfl
  refine FunM.sortRow (f := 43) 2 encP e1 36 [.func (.func 44) #[] #[]] l (sortP l) (sortP_len l) (fun w p c _ => ?_) (fun w blk cap hH hblk => ?_)
  · exact AnyF.slices_SortFunc_none Try.sortP p c _ w
  · exact AnyQ.slices_SortFunc_eq Try.sortP 2 hs hz encP e1 (fun x v hv => by simp [encP] at hv; rcases hv with rfl | rfl <;> rfl) cmpF swoF 44 #[] blk 0 cap l.toArray w eg (fun _ _ _ _ x y => clos44 x y _) hH hblk (by simp; omega)
/-- What the library makes of a list of numbers. -/
def sortZ (l : List Int) : List Int := l.mergeSort fun x y => decide (x ≤ y)
def encZ (x : Int) : List Value := [.int .i64 x]
theorem flat1 (l : List Int) : Sort.flatK encZ 1 l.toArray = (l.map fun x => Value.int .i64 x).toArray := by
  rw [flatK_eq (k := 1) (enc := encZ) (fun _ => rfl)]
  congr 1
  induction l with
  | nil => rfl
  | cons x l ih => rw [List.flatMap_cons, List.map_cons, ih]; rfl
theorem get1 (l : List Int) (j : Nat) (h : j < l.length) : (Sort.flatK encZ 1 l.toArray)[j]! = Value.int .i64 (l.toArray[j]!) := by
  rw [flat1, getElem!_pos _ j (by simpa using h), getElem!_pos _ j (by simpa using h)]
  simp
theorem zs_dv (l : List Int) : (l.flatMap fun x => (encZ x).map D.v) = l.map I64 := by
  induction l with
  | nil => rfl
  | cons x l ih => rw [List.flatMap_cons, List.map_cons, ih]; rfl
theorem sortI_c (l : List Int) (hl : l.length ≤ 1099511627776) : FunM Try.prog 91 [ow 0 l.length 1] [tb 2 l.length (l.map I64)] (fun o H' => o = .ret (.tup []) ∧ H' = [tb 2 l.length ((sortZ l).map I64)]) := by
  have hlen : (sortZ l).length = l.length := List.length_mergeSort l
  have := FunM.sortRow (P := Try.prog) (f := 91) 1 encZ (fun _ => rfl) 2 [] l (sortZ l) hlen (fun w p c _ => AnyG.slices_Sort_int_none Try.sortI p c w) (fun w blk cap hH hblk => by
    have hH' : Sort.Holds (Value.int .i64) w blk 0 l.toArray := fun j hj => by
      have h1 := hH j (by rw [Sort.size_flatK]; simpa using hj)
      rw [get1 l j (by simpa using hj)] at h1
      exact h1
    refine (AnyG.slices_Sort_int Try.sortI blk 0 cap l w hH' hblk (by omega)).mono fun e w' ⟨he, n, os, hw⟩ => ⟨he, n, os, hw.trans ?_⟩
    unfold sortWorldK Sort.putRowK
    congr 1
    unfold Sort.putRow
    refine Sort.mapBlock_congr _ _ _ _ fun c _ _ _ => ?_
    apply Array.ext_getElem?
    intro j
    simp only [Sort.putCells, Array.getElem?_mapIdx, Sort.size_flatK, Nat.mul_one, Nat.sub_zero, Nat.zero_add, Nat.zero_le, true_and, id]
    cases c[j]? with
    | none => rfl
    | some y =>
      simp only [Option.map_some]
      by_cases hj : j < (sortZ l).toArray.size
      · rw [if_pos (by simpa [sortZ] using hj), if_pos hj, get1 _ j (by simpa using hj)]; rfl
      · rw [if_neg (by simpa [sortZ] using hj), if_neg hj])
  rw [zs_dv, zs_dv] at this
  exact this
end Go.Proofs.Ytoekdjdgeleelaa
namespace Go.Proofs.Ytoekdjdgeleelaa
open Go.RowKit Go.DL

theorem joinM_ge (l : List Sp) (s : Sp) : l.length ≤ (joinM l s).length := by
  unfold joinM
  split <;> simp
def neP (p : Sp) : Bool := !emptyB p.1 p.2
def foldJ (l : List Sp) : List Sp := l.foldl joinM []
def ofM (l : List Sp) : List Sp := foldJ (sortP (l.filter neP))
theorem fil_step1 {l : List Sp} {k : Nat} (h : k < l.length) (c : (!emptyB l[k].1 l[k].2) = true) : (l.take (k + 1)).filter neP = (l.take k).filter neP ++ [l[k]] := by
  have : neP l[k] = true := c
  rw [List.take_succ_eq_append_getElem h, List.filter_append]
  simp [this]
theorem fil_step0 {l : List Sp} {k : Nat} (h : k < l.length) (c : (!emptyB l[k].1 l[k].2) = false) : (l.take (k + 1)).filter neP = (l.take k).filter neP := by
  have : neP l[k] = false := c
  rw [List.take_succ_eq_append_getElem h, List.filter_append]
  simp [this]
theorem fil_len (l : List Sp) (k : Nat) : ((l.take k).filter neP).length ≤ l.length :=
  Nat.le_trans (List.length_filter_le _ _) (by rw [List.length_take]; omega)
theorem foldJ_step {l : List Sp} {k : Nat} (h : k < l.length) : foldJ (l.take (k + 1)) = joinM (foldJ (l.take k)) l[k] := by
  unfold foldJ
  rw [List.take_succ_eq_append_getElem h, List.foldl_append]; rfl
theorem foldJ_len : ∀ (l : List Sp), (foldJ l).length ≤ l.length := by
  intro l
  have : ∀ (l a : List Sp), (l.foldl joinM a).length ≤ a.length + l.length := by
    intro l
    induction l with
    | nil => intro a; simp
    | cons x l ih =>
      intro a
      have h1 := ih (joinM a x)
      have h2 := joinM_len a x
      simp only [List.foldl_cons, List.length_cons]; omega
  simpa [foldJ] using this l []
theorem foldJ_take (l : List Sp) (k : Nat) : (foldJ (l.take k)).length ≤ l.length := Nat.le_trans (foldJ_len _) (by rw [List.length_take]; omega)
theorem pc_dt (l : List Sp) (k : Nat) (h : k < l.length) : ((l.flatMap pc).drop (0 + k * 2)).take 2 = [I64 l[k].1, I64 l[k].2] := by
  have h1 := pc_get l k h
  rw [getD_is h] at h1
  have hl := len_pcs l
  refine List.ext_getElem? fun j => ?_
  rw [List.getElem?_take]
  by_cases hj : j < 2
  · rw [if_pos hj, List.getElem?_drop]
    rcases (show j = 0 ∨ j = 1 by omega) with rfl | rfl
    · rw [Nat.add_zero, h1.2]; rfl
    · rw [h1.1]; rfl
  · rw [if_neg hj, List.getElem?_eq_none (by simp; omega)]
set_option maxHeartbeats 4000000 in
theorem Of_c (l : List Sp) (hl : l.length ≤ 1099511627776) : Fun Try.prog 16 [rdP l] (· = rdP (ofM l)) := by
  refine Fun.of Try.func16 rfl (Nat.le_of_ble_eq_true rfl) fun C => ?_
  refine WC.seq fun Fh1_ h1_ => ?_
  refine WC.region ?_
  refine RG.op _ _ rfl rfl (o_assign (.v _) rfl) ?_
  refine RG.nil (h1_ _ ?_)
  refine WC.seq fun Fh2_ h2_ => ?_
  refine WC.region ?_
  refine RG.op _ _ rfl rfl (o_move (.rd _ _) rfl) ?_
  refine RG.op _ _ rfl rfl (o_len_rd rfl Try.underlying22) ?_
  refine RG.op _ _ rfl rfl (o_makeT 0 0 l.length rfl rfl Try.underlying22 Ty.inf36 rfl rfl (by first | omega | exact ubyte _ | (simp only [LS, len_pcs] <;> omega)) (by first | omega | exact ubyte _ | (simp only [LS, len_pcs] <;> omega)) (by first | omega | exact ubyte _ | (simp only [LS, len_pcs] <;> omega)) (by first | omega | exact ubyte _ | (simp only [LS, len_pcs] <;> omega)) (by first | omega | exact ubyte _ | (simp only [LS, len_pcs] <;> omega))) ?_
  refine RG.op _ _ rfl rfl (o_assign (.own _ _ _ _ _) rfl) ?_
  refine RG.nil (h2_ _ ?_)
  refine WC.seq fun Fh3_ h3_ => ?_
  refine WC.seq fun Fh4_ h4_ => ?_
  refine WC.region ?_
  refine RG.op _ _ rfl rfl (o_move (.rd _ _) rfl) ?_
  refine RG.op _ _ rfl rfl (o_len_rd rfl Try.underlying22) ?_
  refine RG.op _ _ rfl rfl (o_move (.v _) rfl) ?_
  refine RG.nil (h4_ _ ?_)
  refine WC.block ?_
  refine WC.loopU [3, 5, 14, 15, 16, 17, 18, 19, 20, 21, 22, 23, 24, 25] (fun (k : Nat) => [(14, I64 ((k : Nat) : Int)), (3, ow 0 ((l.take k).filter neP).length 2)]) (fun (k : Nat) => [(0, tb 36 ((l.take k).filter neP).length (((l.take k).filter neP).flatMap pc))]) (fun (k : Nat) => k ≤ l.length) (fun (k : Nat) => l.length - k) 0 (Nat.zero_le _) ?lpa5_ ?lpb6_
  case lpa5_ =>
    exact .mk' ⟨⟨rfl, .v _⟩, ⟨rfl, (by first | exact .own _ _ _ _ _ (Nat.le_refl _) | exact .ptr _ _ _ (Nat.le_refl _) | exact .omp _ _ (Nat.le_refl _))⟩, trivial⟩ (same_refl _ _) (rfl) (by repeat (first | exact trivial | refine And.intro (Nat.le_refl _) ?_ | refine And.intro trivial ?_ | refine And.intro (by show _ ≤ _; (first | omega | (simp only [LS, len_pcs] <;> omega))) ?_)) (by repeat (first | exact trivial | refine And.intro (one_ok (.own _ _ _ _ _ (Nat.le_refl _))) ?_ | refine And.intro (okp (by repeat (first | exact pu_pcs _ | exact pu_bytes _ | exact pu_nil | exact pu_vs rfl | exact pu_map (fun _ => .v _) _ | exact pu_vals _ | refine pu_app ?_ ?_ | refine pu_cons (by exact pu_of rfl) ?_))) ?_))
  case lpb6_ =>
    rintro k hI
    have hf := fil_len l k
    refine WC.seq fun Fh7_ h7_ => ?_
    refine WC.region ?_
    refine RG.op _ _ rfl rfl (o_ltI rfl rfl) ?_
    refine RG.nil (h7_ _ ?_)
    refine WC.seq fun Fh8_ h8_ => ?_
    refine WC.cond _ rfl (fun c3 => ?_) (fun c3 => ?_)
    ·
      have p3 := c3
      try simp only [CN] at p3
      have hkl : k < l.length := by omega
      refine WC.skip (h8_ _ ?_)
      refine WC.seq fun Fh9_ h9_ => ?_
      refine WC.block ?_
      refine WC.seq fun Fh10_ h10_ => ?_
      refine WC.region ?_
      refine RG.op _ _ rfl rfl (o_ixn_L (l := l) (f := pc) k pc_len rfl rfl rfl Try.underlying22 (sz_of Ty.inf36) rfl hkl) ?_
      refine RG.op _ _ rfl rfl (o_load_adr_L (xs := [_, _]) rfl Try.underlying36 rfl (sz_of Ty.inf36) rfl) ?_
      refine RG.op _ _ rfl rfl (o_alloc (z_of Ty.inf36) rfl) ?_
      refine RG.op _ _ rfl rfl (o_store (d := (.agg [_, _])) rfl rfl rfl rfl (sz_of Ty.inf36) (Nat.le_of_ble_eq_true rfl) rfl) ?_
      refine RG.nil (h10_ _ ?_)
      refine WC.seq fun Fh11_ h11_ => ?_
      refine WC.region ?_
      refine RG.op _ _ rfl rfl (o_load_ptr_L (xs := [_, _]) rfl Try.underlying36 rfl (sz_of Ty.inf36) rfl rfl rfl rfl) ?_
      refine RG.op _ _ rfl rfl (o_call Ty.cal42 (empty_c _ _) ⟨.inl rfl, trivial⟩ (by exact pua rfl)) ?_
      refine RG.op _ _ rfl rfl (o_not rfl) ?_
      refine RG.nil (h11_ _ ?_)
      refine WC.cond _ rfl (fun c5 => ?_) (fun c5 => ?_)
      ·
        have p5 := c5
        try simp only [CN] at p5
        refine WC.region ?_
        refine RG.op _ _ rfl rfl (o_move (.own _ _ _ _ _) rfl) ?_
        refine RG.op _ _ rfl rfl (o_load_ptr_L (xs := [_, _]) rfl Try.underlying36 rfl (sz_of Ty.inf36) rfl rfl rfl rfl) ?_
        refine RG.op _ _ rfl rfl (o_litP (cs := [_, _]) Try.underlying22 Ty.inf36 rfl rfl rfl rfl (by repeat (first | exact pu_pcs _ | exact pu_bytes _ | exact pu_nil | exact pu_vs rfl | exact pu_map (fun _ => .v _) _ | exact pu_vals _ | refine pu_app ?_ ?_ | refine pu_cons (by exact pu_of rfl) ?_))) ?_
        refine RG.op _ _ rfl rfl (o_appT (Elem.of Try.underlying22 Ty.inf36 rfl (by decide)) rfl rfl rfl (by first | omega | exact ubyte _ | (simp only [LS, len_pcs] <;> omega)) (by first | omega | exact ubyte _ | (simp only [LS, len_pcs] <;> omega)) (by repeat (first | exact bytesD_one _ | exact one_nil | exact one_map (fun _ => rfl) _ | exact one_vals _ | exact one_pcs _ | refine one_app ?_ ?_ | refine one_cons rfl ?_)) (by first | omega | exact ubyte _ | (simp only [LS, len_pcs] <;> omega)) (by first | omega | exact ubyte _ | (simp only [LS, len_pcs] <;> omega))) ?_
        refine RG.op _ _ rfl rfl (o_assign (.own _ _ _ _ _) rfl) ?_
        refine RG.nil (h9_ _ ?_)
        refine WC.region ?_
        refine RG.op _ _ rfl rfl (o_add rfl rfl (by first | omega | exact ubyte _ | (simp only [LS, len_pcs] <;> omega)) (by first | omega | exact ubyte _ | (simp only [LS, len_pcs] <;> omega))) ?_
        refine RG.op _ _ rfl rfl (o_move (.v _) rfl) ?_
        refine RG.nil (Exists.intro (k + 1) ⟨by first | omega | (simp only [LS, len_pcs] <;> omega), by first | omega | (simp only [LS, len_pcs] <;> omega), ?_⟩)
        exact .mk' ⟨⟨rfl, .v _⟩, ⟨ow_eq (by rw [fil_step1 hkl c5, List.length_append]; rfl), (by first | exact .own _ _ _ _ _ (Nat.le_refl _) | exact .ptr _ _ _ (Nat.le_refl _) | exact .omp _ _ (Nat.le_refl _))⟩, trivial⟩ (by repeat (first | with_reducible exact same_refl _ _ | with_reducible refine same_updO (by with_unfolding_all exact rfl) ?_ | with_reducible refine same_updN ?_ | with_reducible refine same_updL (by with_unfolding_all exact rfl) ?_ | with_reducible refine same_forget (by with_unfolding_all exact rfl) ?_)) (congrArg (fun c => [c]) (tb_eq (by rw [fil_step1 hkl c5, List.length_append]; rfl) (by rw [fil_step1 hkl c5, List.flatMap_append]; rfl))) (by repeat (first | exact trivial | refine And.intro (Nat.le_refl _) ?_ | refine And.intro trivial ?_ | refine And.intro (by show _ ≤ _; (first | omega | (simp only [LS, len_pcs] <;> omega))) ?_)) (by repeat (first | exact trivial | refine And.intro (one_ok (.own _ _ _ _ _ (Nat.le_refl _))) ?_ | refine And.intro (okp (by repeat (first | exact pu_pcs _ | exact pu_bytes _ | exact pu_nil | exact pu_vs rfl | exact pu_map (fun _ => .v _) _ | exact pu_vals _ | refine pu_app ?_ ?_ | refine pu_cons (by exact pu_of rfl) ?_))) ?_))
      ·
        have p5 := c5
        try simp only [CN] at p5
        refine WC.skip (h9_ _ ?_)
        refine WC.region ?_
        refine RG.op _ _ rfl rfl (o_add rfl rfl (by first | omega | exact ubyte _ | (simp only [LS, len_pcs] <;> omega)) (by first | omega | exact ubyte _ | (simp only [LS, len_pcs] <;> omega))) ?_
        refine RG.op _ _ rfl rfl (o_move (.v _) rfl) ?_
        refine RG.nil (Exists.intro (k + 1) ⟨by first | omega | (simp only [LS, len_pcs] <;> omega), by first | omega | (simp only [LS, len_pcs] <;> omega), ?_⟩)
        exact .mk' ⟨⟨rfl, .v _⟩, ⟨ow_eq (by rw [fil_step0 hkl c5]), (by first | exact .own _ _ _ _ _ (Nat.le_refl _) | exact .ptr _ _ _ (Nat.le_refl _) | exact .omp _ _ (Nat.le_refl _))⟩, trivial⟩ (by repeat (first | with_reducible exact same_refl _ _ | with_reducible refine same_updO (by with_unfolding_all exact rfl) ?_ | with_reducible refine same_updN ?_ | with_reducible refine same_updL (by with_unfolding_all exact rfl) ?_ | with_reducible refine same_forget (by with_unfolding_all exact rfl) ?_)) (congrArg (fun c => [c]) (tb_eq (by rw [fil_step0 hkl c5]) (by rw [fil_step0 hkl c5]))) (by repeat (first | exact trivial | refine And.intro (Nat.le_refl _) ?_ | refine And.intro trivial ?_ | refine And.intro (by show _ ≤ _; (first | omega | (simp only [LS, len_pcs] <;> omega))) ?_)) (by repeat (first | exact trivial | refine And.intro (one_ok (.own _ _ _ _ _ (Nat.le_refl _))) ?_ | refine And.intro (okp (by repeat (first | exact pu_pcs _ | exact pu_bytes _ | exact pu_nil | exact pu_vs rfl | exact pu_map (fun _ => .v _) _ | exact pu_vals _ | refine pu_app ?_ ?_ | refine pu_cons (by exact pu_of rfl) ?_))) ?_))
    ·
      have p3 := c3
      try simp only [CN] at p3
      refine WC.exit (h3_ _ ?_)
      refine WC.seq fun Fh12_ h12_ => ?_
      have hkl : k = l.length := by omega
      have hS : (sortP ((l.take k).filter neP)).length = ((l.take k).filter neP).length := sortP_len _
      refine WC.region ?_
      refine RG.op _ _ rfl rfl (o_move (.own _ _ _ _ _) rfl) ?_
      refine RG.op _ _ rfl rfl (OpX.d (x_call Ty.cal43 (FunM.frame (ds := [_, _]) [0] [_] [_] [] (sort_c _ (by first | omega | exact ubyte _ | (simp only [LS, len_pcs] <;> omega))) (by decide) ⟨rfl, trivial⟩ ⟨.pure (by repeat (first | exact pu_pcs _ | exact pu_bytes _ | exact pu_nil | exact pu_vs rfl | exact pu_map (fun _ => .v _) _ | exact pu_vals _ | refine pu_app ?_ ?_ | refine pu_cons (by exact pu_of rfl) ?_)), trivial⟩ ⟨.own _ _ _ _ _ rfl, .pure _ (by exact pu_of rfl), trivial⟩ rfl ⟨.pure (by repeat (first | exact pu_pcs _ | exact pu_bytes _ | exact pu_nil | exact pu_vs rfl | exact pu_map (fun _ => .v _) _ | exact pu_vals _ | refine pu_app ?_ ?_ | refine pu_cons (by exact pu_of rfl) ?_)), trivial⟩ (.pure _ (by exact pu_of rfl)) rfl) ⟨.inl rfl, .inl rfl, trivial⟩) (VLe.le (by repeat (first | exact trivial | refine And.intro (Nat.le_refl _) ?_ | refine And.intro trivial ?_ | refine And.intro (by show _ ≤ _; (first | omega | (simp only [LS, len_pcs] <;> omega))) ?_)))) ?_
      refine RG.nil (h12_ _ ?_)
      refine WC.seq fun Fh13_ h13_ => ?_
      refine WC.region ?_
      refine RG.op _ _ rfl rfl (o_nil 36 2) ?_
      refine RG.nil (h13_ _ ?_)
      refine WC.seq fun Fh14_ h14_ => ?_
      refine WC.seq fun Fh15_ h15_ => ?_
      refine WC.region ?_
      refine RG.op _ _ rfl rfl (o_move (.own _ _ _ _ _) rfl) ?_
      refine RG.op _ _ rfl rfl (o_len_own rfl Try.underlying22) ?_
      refine RG.op _ _ rfl rfl (o_move (.v _) rfl) ?_
      refine RG.nil (h15_ _ ?_)
      refine WC.block ?_
      refine WC.loopU [6, 8, 30, 31, 32, 33, 34, 35, 36, 37] (fun (j : Nat) => [(30, I64 ((j : Nat) : Int)), (6, ow 1 (foldJ ((sortP ((l.take k).filter neP)).take j)).length 2)]) (fun (j : Nat) => [(1, tb 36 (foldJ ((sortP ((l.take k).filter neP)).take j)).length ((foldJ ((sortP ((l.take k).filter neP)).take j)).flatMap pc))]) (fun (j : Nat) => j ≤ (sortP ((l.take k).filter neP)).length) (fun (j : Nat) => (sortP ((l.take k).filter neP)).length - j) 0 (Nat.zero_le _) ?lpa16_ ?lpb17_
      case lpa16_ =>
        exact .mk' ⟨⟨rfl, .v _⟩, ⟨rfl, (by first | exact .own _ _ _ _ _ (Nat.le_refl _) | exact .ptr _ _ _ (Nat.le_refl _) | exact .omp _ _ (Nat.le_refl _))⟩, trivial⟩ (same_refl _ _) (rfl) (by repeat (first | exact trivial | refine And.intro (Nat.le_refl _) ?_ | refine And.intro trivial ?_ | refine And.intro (by show _ ≤ _; (first | omega | (simp only [LS, len_pcs] <;> omega))) ?_)) (by repeat (first | exact trivial | refine And.intro (one_ok (.own _ _ _ _ _ (Nat.le_refl _))) ?_ | refine And.intro (okp (by repeat (first | exact pu_pcs _ | exact pu_bytes _ | exact pu_nil | exact pu_vs rfl | exact pu_map (fun _ => .v _) _ | exact pu_vals _ | refine pu_app ?_ ?_ | refine pu_cons (by exact pu_of rfl) ?_))) ?_))
      case lpb17_ =>
        rintro j hI
        have hfj := foldJ_take (sortP ((l.take k).filter neP)) j
        refine WC.seq fun Fh18_ h18_ => ?_
        refine WC.region ?_
        refine RG.op _ _ rfl rfl (o_ltI rfl rfl) ?_
        refine RG.nil (h18_ _ ?_)
        refine WC.seq fun Fh19_ h19_ => ?_
        refine WC.cond _ rfl (fun c11 => ?_) (fun c11 => ?_)
        ·
          have p11 := c11
          try simp only [CN] at p11
          have hjl : j < (sortP ((l.take k).filter neP)).length := by omega
          have hge := joinM_ge (foldJ ((sortP ((l.take k).filter neP)).take j)) (((sortP ((l.take k).filter neP))[j]'hjl).1, ((sortP ((l.take k).filter neP))[j]'hjl).2)
          refine WC.skip (h19_ _ ?_)
          refine WC.seq fun Fh20_ h20_ => ?_
          refine WC.block ?_
          refine WC.seq fun Fh21_ h21_ => ?_
          refine WC.region ?_
          refine RG.op _ _ rfl rfl (o_ixn_own j rfl rfl Try.underlying22 (sz_of Ty.inf36) (by first | omega | exact ubyte _ | (simp only [LS, len_pcs] <;> omega)) (by first | omega | exact ubyte _ | (simp only [LS, len_pcs] <;> omega))) ?_
          refine RG.op _ _ rfl rfl (o_load_ptr_L (xs := [I64 ((sortP ((l.take k).filter neP))[j]'hjl).1, I64 ((sortP ((l.take k).filter neP))[j]'hjl).2]) rfl Try.underlying36 rfl (sz_of Ty.inf36) rfl rfl (Nat.ble_eq_true_of_le (by show 0 + j * 2 + 2 ≤ ((sortP ((l.take k).filter neP)).flatMap pc).length; rw [len_pcs]; omega)) (pc_dt _ j hjl)) ?_
          refine RG.op _ _ rfl rfl (o_alloc (z_of Ty.inf36) rfl) ?_
          refine RG.op _ _ rfl rfl (o_store (d := (.agg [_, _])) rfl rfl rfl rfl (sz_of Ty.inf36) (Nat.le_of_ble_eq_true rfl) rfl) ?_
          refine RG.nil (h21_ _ ?_)
          refine WC.region ?_
          refine RG.op _ _ rfl rfl (o_move (.own _ _ _ _ _) rfl) ?_
          refine RG.op _ _ rfl rfl (o_load_ptr_L (xs := [_, _]) rfl Try.underlying36 rfl (sz_of Ty.inf36) rfl rfl rfl rfl) ?_
          refine RG.op _ _ rfl rfl (OpX.d (x_call Ty.cal46 (FunM.frame (ds := [_, _]) [1] [_] [_] [] (join_c _ _ _ (by first | omega | exact ubyte _ | (simp only [LS, len_pcs] <;> omega))) (by decide) ⟨rfl, trivial⟩ ⟨.pure (by repeat (first | exact pu_pcs _ | exact pu_bytes _ | exact pu_nil | exact pu_vs rfl | exact pu_map (fun _ => .v _) _ | exact pu_vals _ | refine pu_app ?_ ?_ | refine pu_cons (by exact pu_of rfl) ?_)), trivial⟩ ⟨.own _ _ _ _ _ rfl, .pure _ (by exact pu_of rfl), trivial⟩ rfl ⟨.pure (by repeat (first | exact pu_pcs _ | exact pu_bytes _ | exact pu_nil | exact pu_vs rfl | exact pu_map (fun _ => .v _) _ | exact pu_vals _ | refine pu_app ?_ ?_ | refine pu_cons (by exact pu_of rfl) ?_)), trivial⟩ (.own _ _ _ _ _ rfl) rfl) ⟨.inl rfl, .inl rfl, trivial⟩) (VLe.le (by repeat (first | exact trivial | refine And.intro (Nat.le_refl _) ?_ | refine And.intro trivial ?_ | refine And.intro (by show _ ≤ _; (first | omega | (simp only [LS, len_pcs] <;> omega))) ?_)))) ?_
          refine RG.op _ _ rfl rfl (o_assign (.own _ _ _ _ _) rfl) ?_
          refine RG.nil (h20_ _ ?_)
          refine WC.region ?_
          refine RG.op _ _ rfl rfl (o_add rfl rfl (by first | omega | exact ubyte _ | (simp only [LS, len_pcs] <;> omega)) (by first | omega | exact ubyte _ | (simp only [LS, len_pcs] <;> omega))) ?_
          refine RG.op _ _ rfl rfl (o_move (.v _) rfl) ?_
          refine RG.nil (Exists.intro (j + 1) ⟨by first | omega | (simp only [LS, len_pcs] <;> omega), by first | omega | (simp only [LS, len_pcs] <;> omega), ?_⟩)
          exact .mk' ⟨⟨rfl, .v _⟩, ⟨ow_eq (by rw [foldJ_step hjl]), (by first | exact .own _ _ _ _ _ (Nat.le_refl _) | exact .ptr _ _ _ (Nat.le_refl _) | exact .omp _ _ (Nat.le_refl _))⟩, trivial⟩ (by repeat (first | with_reducible exact same_refl _ _ | with_reducible refine same_updO (by with_unfolding_all exact rfl) ?_ | with_reducible refine same_updN ?_ | with_reducible refine same_updL (by with_unfolding_all exact rfl) ?_ | with_reducible refine same_forget (by with_unfolding_all exact rfl) ?_)) (congrArg (fun c => [_, c]) (tb_eq (by rw [foldJ_step hjl]) (by rw [foldJ_step hjl]))) (by repeat (first | exact trivial | refine And.intro (Nat.le_refl _) ?_ | refine And.intro trivial ?_ | refine And.intro (by show _ ≤ _; (first | omega | (simp only [LS, len_pcs] <;> omega))) ?_)) (by repeat (first | exact trivial | refine And.intro (one_ok (.own _ _ _ _ _ (Nat.le_refl _))) ?_ | refine And.intro (okp (by repeat (first | exact pu_pcs _ | exact pu_bytes _ | exact pu_nil | exact pu_vs rfl | exact pu_map (fun _ => .v _) _ | exact pu_vals _ | refine pu_app ?_ ?_ | refine pu_cons (by exact pu_of rfl) ?_))) ?_))
        ·
          have p11 := c11
          try simp only [CN] at p11
          refine WC.exit (h14_ _ ?_)
          refine WC.seq fun Fh22_ h22_ => ?_
          refine WC.region ?_
          refine RG.op _ _ rfl rfl (o_move (.own _ _ _ _ _) rfl) ?_
          refine RG.op _ _ rfl rfl (o_assign (.own _ _ _ _ _) rfl) ?_
          refine RG.nil (h22_ _ ?_)
          refine WC.ret ?_
          exact Ends.r1 rfl (.tmp _ (.own _ _ _ _ _) rfl) (.tb rfl (by repeat (first | exact pu_pcs _ | exact pu_bytes _ | exact pu_nil | exact pu_vs rfl | exact pu_map (fun _ => .v _) _ | exact pu_vals _ | refine pu_app ?_ ?_ | refine pu_cons (by exact pu_of rfl) ?_))) (congrArg rdP (by unfold ofM; subst hkl; rw [List.take_of_length_le (by omega), List.take_length]))
end Go.Proofs.Ytoekdjdgeleelaa
namespace Go.Proofs.Ytoekdjdgeleelaa
open Go.RowKit Go.DL

theorem putRow1 (w : World) (blk : Nat) (l : List Int) : Sort.putRow (Value.int .i64) w blk 0 l.toArray = Sort.putRowK encZ 1 w blk 0 l.toArray := by
  unfold Sort.putRowK Sort.putRow
  refine Sort.mapBlock_congr _ _ _ _ fun c _ _ _ => ?_
  apply Array.ext_getElem?
  intro j
  simp only [Sort.putCells, Array.getElem?_mapIdx, Sort.size_flatK, Nat.mul_one, Nat.sub_zero, Nat.zero_add, Nat.zero_le, true_and, id]
  cases c[j]? with
  | none => rfl
  | some y =>
    simp only [Option.map_some]
    by_cases hj : j < l.toArray.size
    · rw [if_pos hj, if_pos hj, get1 _ j (by simpa using hj)]
    · rw [if_neg hj, if_neg hj]
def cpM (l : List Int) : List Int := Lib.compact l
theorem cpM_len (l : List Int) : (cpM l).length ≤ l.length := by
  unfold cpM Lib.compact Lib.compactUpTo
  rw [List.length_map]
  exact Nat.le_trans (List.length_filter_le _ _) (by simp)
def cpZ (l : List Int) : List Int := cpM l ++ List.replicate (l.length - (cpM l).length) 0
theorem cpZ_len (l : List Int) : (cpZ l).length = l.length := by
  have := cpM_len l
  unfold cpZ; rw [List.length_append, List.length_replicate]; omega
theorem comp_c (l : List Int) (hl : l.length ≤ 1099511627776) : FunM Try.prog 92 [ow 0 l.length 1] [tb 2 l.length (l.map I64)] (fun o H' => o = .ret (.own 0 l.length 0 (cpM l).length 1) ∧ H' = [tb 2 l.length ((cpZ l).map I64)]) := by
  have := FunM.rowCall (P := Try.prog) (f := 92) 1 encZ (fun _ => rfl) 2 [] l (cpZ l) (cpZ_len l) (some (cpM l).length) (fun m hm => by cases hm; exact cpM_len l) (fun w p c h0 => by subst h0; exact AnyG.slices_Compact_int_empty Try.compI p c w) (fun w blk cap hH hblk hcap => by
    have hH' : Sort.Holds (Value.int .i64) w blk 0 l.toArray := fun j hj => by
      have h1 := hH j (by rw [Sort.size_flatK]; simpa using hj)
      rw [get1 l j (by simpa using hj)] at h1
      exact h1
    refine (AnyG.slices_Compact_int Try.compI blk 0 cap l w hH' (by omega) hcap).mono fun e w' ⟨he, n, hw⟩ => ⟨he, n, #[], hw.trans ?_⟩
    unfold sortWorldK
    rw [show ∀ W : World, Sort.grow W #[] = W from fun W => by unfold Sort.grow; simp, ← putRow1]
    rfl)
  rw [zs_dv, zs_dv] at this
  exact this
/-- The ends of spans, as_ they come. -/
def flat2 (l : List Sp) : List Int := l.flatMap fun p => [p.1, p.2]
theorem flat2_app (a b : List Sp) : flat2 (a ++ b) = flat2 a ++ flat2 b := by unfold flat2; rw [List.flatMap_append]
theorem flat2_len (l : List Sp) : (flat2 l).length = l.length * 2 := by
  unfold flat2
  induction l with
  | nil => rfl
  | cons p l ih => rw [List.flatMap_cons, List.length_append, ih, List.length_cons]; simp; omega
def endsL (l : List (List Sp)) : List Int := cpM (sortZ (flat2 l.flatten))
theorem fl_part {l : List (List Sp)} {k : Nat} (h : k < l.length) (j : Nat) : ((l.take k).flatten ++ (l[k].take j)).length ≤ l.flatten.length := by
  have e : l = l.take k ++ l[k] :: l.drop (k + 1) := by rw [List.getElem_cons_drop, List.take_append_drop]
  have e2 : l.flatten.length = (l.take k).flatten.length + (l[k].length + (l.drop (k + 1)).flatten.length) := by
    conv => lhs; rw [e]
    rw [List.flatten_append, List.flatten_cons, List.length_append, List.length_append]
  rw [List.length_append, e2, List.length_take]; omega
theorem fl_take (l : List (List Sp)) (k : Nat) : (l.take k).flatten.length ≤ l.flatten.length := by
  have e2 : l.flatten.length = (l.take k).flatten.length + (l.drop k).flatten.length := by
    conv => lhs; rw [← List.take_append_drop k l]
    rw [List.flatten_append, List.length_append]
  omega
theorem fl_step {l : List (List Sp)} {k : Nat} (h : k < l.length) : (l.take (k + 1)).flatten = (l.take k).flatten ++ l[k] := by
  rw [List.take_succ_eq_append_getElem h, List.flatten_append]; simp
theorem in_step {a : List Sp} {j : Nat} (h : j < a.length) (x : List Sp) : flat2 (x ++ a.take (j + 1)) = flat2 (x ++ a.take j) ++ [a[j].1, a[j].2] := by
  rw [List.take_succ_eq_append_getElem h, ← List.append_assoc, flat2_app (x ++ a.take j)]; rfl
theorem Frz.pre {H : Heap} {id ver n sz : Nat} {b : Blk} {ds rest : List D} (hb : H[id]? = some (some b)) (hv : b.ver = ver) (hcs : b.cs = ds ++ rest) (hp : ∀ c ∈ ds, Pure' c) : Frz H (.own id ver 0 n sz) (.rd n ds) := by
  subst hv
  refine .own id 0 n sz b ds hb (by rw [hcs, List.length_append]; omega) fun j c d hc hd => ?_
  have hj : j < ds.length := (List.getElem?_eq_some_iff.1 hd).1
  rw [Nat.zero_add, hcs, List.getElem?_append_left hj, hd] at hc
  cases hc
  exact Frz.pure' (hp _ (List.mem_of_getElem? hd))
theorem sortZ_len (l : List Int) : (sortZ l).length = l.length := List.length_mergeSort l
theorem comp2_c (l : List Int) (hl : l.length ≤ 1099511627776) : FunM Try.prog 92 [ow 0 l.length 1] [tb 2 l.length ((sortZ l).map I64)] (fun o H' => o = .ret (.own 0 l.length 0 (cpM (sortZ l)).length 1) ∧ H' = [tb 2 l.length ((cpZ (sortZ l)).map I64)]) := by
  have := comp_c (sortZ l) (by rw [sortZ_len]; exact hl)
  rw [sortZ_len] at this
  exact this
def accA (l : List (List Sp)) (k : Nat) : List Int := flat2 (l.take k).flatten
def accB (l : List (List Sp)) (k : Nat) (a : List Sp) (j : Nat) : List Int := flat2 ((l.take k).flatten ++ a.take j)
theorem accA_len (l : List (List Sp)) (k : Nat) (hs : l.flatten.length ≤ 274877906944) : (accA l k).length ≤ 549755813888 := by
  have := fl_take l k
  unfold accA; rw [flat2_len]; omega
theorem accB_len {l : List (List Sp)} {k : Nat} (h : k < l.length) (j : Nat) (hs : l.flatten.length ≤ 274877906944) : (accB l k l[k] j).length ≤ 549755813888 := by
  have := fl_part h j
  unfold accB; rw [flat2_len]; omega
theorem accB_0 (l : List (List Sp)) (k : Nat) (a : List Sp) : accA l k = accB l k a 0 := by
  unfold accA accB; rw [List.take_zero, List.append_nil]
theorem accB_end {l : List (List Sp)} {k j : Nat} (h : k < l.length) (hj : l[k].length ≤ j) : accB l k l[k] j = accA l (k + 1) := by
  unfold accA accB; rw [fl_step h, List.take_of_length_le hj]
theorem accB_step {l : List (List Sp)} {k j : Nat} {a : List Sp} (h : j < a.length) : accB l k a (j + 1) = accB l k a j ++ [a[j].1, a[j].2] := in_step h _
theorem accB_ge (l : List (List Sp)) (k : Nat) (a : List Sp) (j : Nat) : (accA l k).length ≤ (accB l k a j).length := by
  unfold accA accB; rw [flat2_app, List.length_append]; omega
theorem accB_mono {l : List (List Sp)} {k j : Nat} {a : List Sp} (h : j < a.length) : (accB l k a j).length ≤ (accB l k a (j + 1)).length := by
  rw [accB_step h, List.length_append]; omega
theorem accA_mono {l : List (List Sp)} {k : Nat} (h : k < l.length) : (accA l k).length ≤ (accA l (k + 1)).length := by
  rw [← accB_end h (Nat.le_refl _)]; exact accB_ge _ _ _ _
set_option maxHeartbeats 4000000 in
theorem ends_c (l : List (List Sp)) (hl : l.length ≤ 1099511627776) (hs : l.flatten.length ≤ 274877906944) (hsm : ∀ a ∈ l, a.length ≤ 274877906944) : Fun Try.prog 85 [rdPs l] (· = rdI (endsL l)) := by
  refine Fun.of Try.func85 rfl (Nat.le_of_ble_eq_true rfl) fun C => ?_
  refine WC.seq fun Fh1_ h1_ => ?_
  refine WC.region ?_
  refine RG.op _ _ rfl rfl (o_assign (.v _) rfl) ?_
  refine RG.nil (h1_ _ ?_)
  refine WC.seq fun Fh2_ h2_ => ?_
  refine WC.region ?_
  refine RG.op _ _ rfl rfl (o_nil 2 1) ?_
  refine RG.nil (h2_ _ ?_)
  refine WC.seq fun Fh3_ h3_ => ?_
  refine WC.seq fun Fh4_ h4_ => ?_
  refine WC.region ?_
  refine RG.op _ _ rfl rfl (o_move (.rd _ _) rfl) ?_
  refine RG.op _ _ rfl rfl (o_len_rd rfl Try.underlying46) ?_
  refine RG.op _ _ rfl rfl (o_move (.v _) rfl) ?_
  refine RG.nil (h4_ _ ?_)
  refine WC.block ?_
  refine WC.loopU [3, 5, 7, 10, 11, 12, 13, 14, 15, 16, 17, 18, 19, 20, 21, 22, 23, 24, 25, 26, 27, 28] (fun (k : Nat) => [(10, I64 ((k : Nat) : Int)), (3, ow 0 (accA l k).length 1)]) (fun (k : Nat) => [(0, tb 2 (accA l k).length ((accA l k).map I64))]) (fun (k : Nat) => k ≤ l.length) (fun (k : Nat) => l.length - k) 0 (Nat.zero_le _) ?lpa5_ ?lpb6_
  case lpa5_ =>
    exact .mk' ⟨⟨rfl, .v _⟩, ⟨rfl, (by first | exact .own _ _ _ _ _ (Nat.le_refl _) | exact .ptr _ _ _ (Nat.le_refl _) | exact .omp _ _ (Nat.le_refl _))⟩, trivial⟩ (same_refl _ _) (rfl) (by repeat (first | exact trivial | refine And.intro (Nat.le_refl _) ?_ | refine And.intro trivial ?_ | refine And.intro (by show _ ≤ _; (first | omega | (simp only [LS, len_pcs] <;> omega))) ?_)) (by repeat (first | exact trivial | refine And.intro (one_ok (.own _ _ _ _ _ (Nat.le_refl _))) ?_ | refine And.intro (okp (by repeat (first | exact pu_pcs _ | exact pu_bytes _ | exact pu_nil | exact pu_vs rfl | exact pu_map (fun _ => .v _) _ | exact pu_vals _ | refine pu_app ?_ ?_ | refine pu_cons (by exact pu_of rfl) ?_))) ?_))
  case lpb6_ =>
    rintro k hI
    have hq := accA_len l k hs
    refine WC.seq fun Fh7_ h7_ => ?_
    refine WC.region ?_
    refine RG.op _ _ rfl rfl (o_ltI rfl rfl) ?_
    refine RG.nil (h7_ _ ?_)
    refine WC.seq fun Fh8_ h8_ => ?_
    refine WC.cond _ rfl (fun c3 => ?_) (fun c3 => ?_)
    ·
      have p3 := c3
      try simp only [CN] at p3
      have hkl : k < l.length := by omega
      have hge0 := accB_ge l k (l[k]'hkl) 0
      have hge2 := accA_mono hkl
      have hak := hsm _ (List.getElem_mem hkl)
      refine WC.skip (h8_ _ ?_)
      refine WC.seq fun Fh9_ h9_ => ?_
      refine WC.block ?_
      refine WC.seq fun Fh10_ h10_ => ?_
      refine WC.region ?_
      refine RG.op _ _ rfl rfl (o_ixn_M (l := l) (g := rdP) k rfl rfl Try.underlying46 (sz_of Ty.inf22) rfl hkl) ?_
      refine RG.op _ _ rfl rfl (o_load_adr rfl Try.underlying22 rfl rfl) ?_
      refine RG.op _ _ rfl rfl (o_assign (.rd _ _) rfl) ?_
      refine RG.nil (h10_ _ ?_)
      refine WC.seq fun Fh11_ h11_ => ?_
      refine WC.region ?_
      refine RG.op _ _ rfl rfl (o_move (.rd _ _) rfl) ?_
      refine RG.op _ _ rfl rfl (o_len_rd rfl Try.underlying22) ?_
      refine RG.op _ _ rfl rfl (o_move (.v _) rfl) ?_
      refine RG.nil (h11_ _ ?_)
      refine WC.block ?_
      refine WC.loopU [3, 7, 16, 17, 18, 19, 20, 21, 22, 23, 24, 25, 26, 27] (fun (j : Nat) => [(16, I64 ((j : Nat) : Int)), (3, ow 0 (accB l k (l[k]'hkl) j).length 1)]) (fun (j : Nat) => [(0, tb 2 (accB l k (l[k]'hkl) j).length ((accB l k (l[k]'hkl) j).map I64))]) (fun (j : Nat) => j ≤ (l[k]'hkl).length) (fun (j : Nat) => (l[k]'hkl).length - j) 0 (Nat.zero_le _) ?lpa12_ ?lpb13_
      case lpa12_ =>
        exact .mk' ⟨⟨rfl, .v _⟩, ⟨ow_eq (by rw [accB_0 l k (l[k]'hkl)]), (by first | exact .own _ _ _ _ _ (Nat.le_refl _) | exact .ptr _ _ _ (Nat.le_refl _) | exact .omp _ _ (Nat.le_refl _))⟩, trivial⟩ (same_refl _ _) (congrArg (fun c => [c]) (tb_eq (by rw [accB_0 l k (l[k]'hkl)]) (by rw [accB_0 l k (l[k]'hkl)]))) (by repeat (first | exact trivial | refine And.intro (Nat.le_refl _) ?_ | refine And.intro trivial ?_ | refine And.intro (by show _ ≤ _; (first | omega | (simp only [LS, len_pcs] <;> omega))) ?_)) (by repeat (first | exact trivial | refine And.intro (one_ok (.own _ _ _ _ _ (Nat.le_refl _))) ?_ | refine And.intro (okp (by repeat (first | exact pu_pcs _ | exact pu_bytes _ | exact pu_nil | exact pu_vs rfl | exact pu_map (fun _ => .v _) _ | exact pu_vals _ | refine pu_app ?_ ?_ | refine pu_cons (by exact pu_of rfl) ?_))) ?_))
      case lpb13_ =>
        rintro j hI
        have hge3 := accB_ge l k (l[k]'hkl) j
        have hq3 := accB_len hkl j hs
        refine WC.seq fun Fh14_ h14_ => ?_
        refine WC.region ?_
        refine RG.op _ _ rfl rfl (o_ltI rfl rfl) ?_
        refine RG.nil (h14_ _ ?_)
        refine WC.seq fun Fh15_ h15_ => ?_
        refine WC.cond _ rfl (fun c6 => ?_) (fun c6 => ?_)
        ·
          have p6 := c6
          try simp only [CN] at p6
          have hjl : j < (l[k]'hkl).length := by omega
          have hge1 := accB_mono (l := l) (k := k) hjl
          refine WC.skip (h15_ _ ?_)
          refine WC.seq fun Fh16_ h16_ => ?_
          refine WC.block ?_
          refine WC.seq fun Fh17_ h17_ => ?_
          refine WC.region ?_
          refine RG.op _ _ rfl rfl (o_ixn_L (l := (l[k]'hkl)) (f := pc) j pc_len rfl rfl rfl Try.underlying22 (sz_of Ty.inf36) rfl hjl) ?_
          refine RG.op _ _ rfl rfl (o_load_adr_L (xs := [_, _]) rfl Try.underlying36 rfl (sz_of Ty.inf36) rfl) ?_
          refine RG.op _ _ rfl rfl (o_alloc (z_of Ty.inf36) rfl) ?_
          refine RG.op _ _ rfl rfl (o_store (d := (.agg [_, _])) rfl rfl rfl rfl (sz_of Ty.inf36) (Nat.le_of_ble_eq_true rfl) rfl) ?_
          refine RG.nil (h17_ _ ?_)
          refine WC.region ?_
          refine RG.op _ _ rfl rfl (o_move (.own _ _ _ _ _) rfl) ?_
          refine RG.op _ _ rfl rfl (o_fld_ptr rfl Try.underlying36 rfl (sz_of Ty.inf2) (by decide)) ?_
          refine RG.op _ _ rfl rfl (o_load_ptr rfl Try.underlying2 rfl rfl rfl rfl) ?_
          refine RG.op _ _ rfl rfl (o_fld_ptr rfl Try.underlying36 rfl (sz_of Ty.inf2) (by decide)) ?_
          refine RG.op _ _ rfl rfl (o_load_ptr rfl Try.underlying2 rfl rfl rfl rfl) ?_
          refine RG.op _ _ rfl rfl (o_litP (cs := [(.v _), (.v _)]) Try.underlying67 Ty.inf2 rfl rfl rfl rfl (by repeat (first | exact pu_pcs _ | exact pu_bytes _ | exact pu_nil | exact pu_vs rfl | exact pu_map (fun _ => .v _) _ | exact pu_vals _ | refine pu_app ?_ ?_ | refine pu_cons (by exact pu_of rfl) ?_))) ?_
          refine RG.op _ _ rfl rfl (o_appT (Elem.of Try.underlying67 Ty.inf2 rfl (by decide)) rfl rfl rfl (by first | omega | exact ubyte _ | (simp only [LS, len_pcs] <;> omega)) (by first | omega | exact ubyte _ | (simp only [LS, len_pcs] <;> omega)) (by repeat (first | exact bytesD_one _ | exact one_nil | exact one_map (fun _ => rfl) _ | exact one_vals _ | exact one_pcs _ | refine one_app ?_ ?_ | refine one_cons rfl ?_)) (by first | omega | exact ubyte _ | (simp only [LS, len_pcs] <;> omega)) (by first | omega | exact ubyte _ | (simp only [LS, len_pcs] <;> omega))) ?_
          refine RG.op _ _ rfl rfl (o_assign (.own _ _ _ _ _) rfl) ?_
          refine RG.nil (h16_ _ ?_)
          refine WC.region ?_
          refine RG.op _ _ rfl rfl (o_add rfl rfl (by first | omega | exact ubyte _ | (simp only [LS, len_pcs] <;> omega)) (by first | omega | exact ubyte _ | (simp only [LS, len_pcs] <;> omega))) ?_
          refine RG.op _ _ rfl rfl (o_move (.v _) rfl) ?_
          refine RG.nil (Exists.intro (j + 1) ⟨by first | omega | (simp only [LS, len_pcs] <;> omega), by first | omega | (simp only [LS, len_pcs] <;> omega), ?_⟩)
          exact .mk' ⟨⟨rfl, .v _⟩, ⟨ow_eq (by rw [accB_step hjl, List.length_append]; rfl), (by first | exact .own _ _ _ _ _ (Nat.le_refl _) | exact .ptr _ _ _ (Nat.le_refl _) | exact .omp _ _ (Nat.le_refl _))⟩, trivial⟩ (by repeat (first | with_reducible exact same_refl _ _ | with_reducible refine same_updO (by with_unfolding_all exact rfl) ?_ | with_reducible refine same_updN ?_ | with_reducible refine same_updL (by with_unfolding_all exact rfl) ?_ | with_reducible refine same_forget (by with_unfolding_all exact rfl) ?_)) (congrArg (fun c => [c]) (tb_eq (by rw [accB_step hjl, List.length_append]; rfl) (by rw [accB_step hjl, List.map_append]; rfl))) (by repeat (first | exact trivial | refine And.intro (Nat.le_refl _) ?_ | refine And.intro trivial ?_ | refine And.intro (by show _ ≤ _; (first | omega | (simp only [LS, len_pcs] <;> omega))) ?_)) (by repeat (first | exact trivial | refine And.intro (one_ok (.own _ _ _ _ _ (Nat.le_refl _))) ?_ | refine And.intro (okp (by repeat (first | exact pu_pcs _ | exact pu_bytes _ | exact pu_nil | exact pu_vs rfl | exact pu_map (fun _ => .v _) _ | exact pu_vals _ | refine pu_app ?_ ?_ | refine pu_cons (by exact pu_of rfl) ?_))) ?_))
        ·
          have p6 := c6
          try simp only [CN] at p6
          refine WC.exit (h9_ _ ?_)
          refine WC.region ?_
          refine RG.op _ _ rfl rfl (o_add rfl rfl (by first | omega | exact ubyte _ | (simp only [LS, len_pcs] <;> omega)) (by first | omega | exact ubyte _ | (simp only [LS, len_pcs] <;> omega))) ?_
          refine RG.op _ _ rfl rfl (o_move (.v _) rfl) ?_
          refine RG.nil (Exists.intro (k + 1) ⟨by first | omega | (simp only [LS, len_pcs] <;> omega), by first | omega | (simp only [LS, len_pcs] <;> omega), ?_⟩)
          exact .mk' ⟨⟨rfl, .v _⟩, ⟨ow_eq (by rw [accB_end hkl (by omega)]), (by first | exact .own _ _ _ _ _ (Nat.le_refl _) | exact .ptr _ _ _ (Nat.le_refl _) | exact .omp _ _ (Nat.le_refl _))⟩, trivial⟩ (by repeat (first | with_reducible exact same_refl _ _ | with_reducible refine same_updO (by with_unfolding_all exact rfl) ?_ | with_reducible refine same_updN ?_ | with_reducible refine same_updL (by with_unfolding_all exact rfl) ?_ | with_reducible refine same_forget (by with_unfolding_all exact rfl) ?_)) (congrArg (fun c => [c]) (tb_eq (by rw [accB_end hkl (by omega)]) (by rw [accB_end hkl (by omega)]))) (by repeat (first | exact trivial | refine And.intro (Nat.le_refl _) ?_ | refine And.intro trivial ?_ | refine And.intro (by show _ ≤ _; (first | omega | (simp only [LS, len_pcs] <;> omega))) ?_)) (by repeat (first | exact trivial | refine And.intro (one_ok (.own _ _ _ _ _ (Nat.le_refl _))) ?_ | refine And.intro (okp (by repeat (first | exact pu_pcs _ | exact pu_bytes _ | exact pu_nil | exact pu_vs rfl | exact pu_map (fun _ => .v _) _ | exact pu_vals _ | refine pu_app ?_ ?_ | refine pu_cons (by exact pu_of rfl) ?_))) ?_))
    ·
      have p3 := c3
      try simp only [CN] at p3
      refine WC.exit (h3_ _ ?_)
      refine WC.seq fun Fh18_ h18_ => ?_
      have hkl : k = l.length := by omega
      have hz := sortZ_len (accA l k)
      refine WC.region ?_
      refine RG.op _ _ rfl rfl (o_move (.own _ _ _ _ _) rfl) ?_
      refine RG.op _ _ rfl rfl (OpX.d (x_call Ty.cal91 (FunM.frame (ds := [_]) [0] [_] [_] [] (sortI_c _ (by first | omega | exact ubyte _ | (simp only [LS, len_pcs] <;> omega))) (by decide) ⟨rfl, trivial⟩ ⟨.pure (by repeat (first | exact pu_pcs _ | exact pu_bytes _ | exact pu_nil | exact pu_vs rfl | exact pu_map (fun _ => .v _) _ | exact pu_vals _ | refine pu_app ?_ ?_ | refine pu_cons (by exact pu_of rfl) ?_)), trivial⟩ ⟨.own _ _ _ _ _ rfl, trivial⟩ rfl ⟨.pure (by repeat (first | exact pu_pcs _ | exact pu_bytes _ | exact pu_nil | exact pu_vs rfl | exact pu_map (fun _ => .v _) _ | exact pu_vals _ | refine pu_app ?_ ?_ | refine pu_cons (by exact pu_of rfl) ?_)), trivial⟩ (.pure _ (by exact pu_of rfl)) rfl) ⟨.inl rfl, trivial⟩) (VLe.le (by repeat (first | exact trivial | refine And.intro (Nat.le_refl _) ?_ | refine And.intro trivial ?_ | refine And.intro (by show _ ≤ _; (first | omega | (simp only [LS, len_pcs] <;> omega))) ?_)))) ?_
      refine RG.nil (h18_ _ ?_)
      refine WC.seq fun Fh19_ h19_ => ?_
      refine WC.region ?_
      refine RG.op _ _ rfl rfl (o_move (.own _ _ _ _ _) rfl) ?_
      refine RG.op _ _ rfl rfl (OpX.d (x_call Ty.cal92 (FunM.frame (ds := [_]) [0] [_] [_] [] (comp2_c _ (by first | omega | exact ubyte _ | (simp only [LS, len_pcs] <;> omega))) (by decide) ⟨rfl, trivial⟩ ⟨.pure (by repeat (first | exact pu_pcs _ | exact pu_bytes _ | exact pu_nil | exact pu_vs rfl | exact pu_map (fun _ => .v _) _ | exact pu_vals _ | refine pu_app ?_ ?_ | refine pu_cons (by exact pu_of rfl) ?_)), trivial⟩ ⟨.own _ _ _ _ _ rfl, trivial⟩ rfl ⟨.pure (by repeat (first | exact pu_pcs _ | exact pu_bytes _ | exact pu_nil | exact pu_vs rfl | exact pu_map (fun _ => .v _) _ | exact pu_vals _ | refine pu_app ?_ ?_ | refine pu_cons (by exact pu_of rfl) ?_)), trivial⟩ (.own _ _ _ _ _ rfl) rfl) ⟨.inl rfl, trivial⟩) (VLe.le (by repeat (first | exact trivial | refine And.intro (Nat.le_refl _) ?_ | refine And.intro trivial ?_ | refine And.intro (by show _ ≤ _; (first | omega | (simp only [LS, len_pcs] <;> omega))) ?_)))) ?_
      refine RG.op _ _ rfl rfl (o_assign (.own _ _ _ _ _) rfl) ?_
      refine RG.nil (h19_ _ ?_)
      refine WC.ret ?_
      exact Ends.r1 rfl (.tmp _ (.own _ _ _ _ _) rfl) (Frz.pre (ds := (cpM (sortZ (accA l k))).map I64) rfl rfl (by unfold cpZ; exact List.map_append) (pu_map (fun _ => .v _) _)) (by subst hkl; unfold accA; rw [List.take_length]; rfl)
end Go.Proofs.Ytoekdjdgeleelaa
namespace Go.DL
open Go.RowKit

/-- A round of the loop l whose record is r, on yield's arguments. -/
def RoundT (P : Program) (l : Nat) (r : Loop) (as_ : Array Value) (w : World) (R : Ending → World → Prop) : Prop :=
  RoundIn (FW none) 0 P l r.fn ((r.params.zip as_).foldl (fun tmps (t, a) => tmps.setIfInBounds t a) r.tmps) r.assign r.body w R
theorem round_FW {r1 r2 : Option Nat} {n m : Nat} {P : Program} {l : Nat} {f : FuncId} {tmps : Array Value} {assign body : Code} {w : World} {R : Ending → World → Prop} (h : RoundIn (FW r1) n P l f tmps assign body w R) : RoundIn (FW r2) m P l f tmps assign body w R :=
  ⟨trivial, fun c cs _ => let ⟨e, w', hr, s⟩ := h.2 c cs (room_FW _ _); ⟨e, w', hr, comes_FW (ComesIn.comes s)⟩⟩
theorem RoundT.mono {P : Program} {l : Nat} {r : Loop} {as_ : Array Value} {w : World} {R R' : Ending → World → Prop} (h : RoundT P l r as_ w R) (hr : ∀ e w, R e w → R' e w) : RoundT P l r as_ w R' := RoundIn.mono h hr
/-- How a call ends, by data. -/
def Post (K : Mem) (β : Nat → Nat → BT) (H : Heap) (w : World) (R : DOut → Heap → Prop) (e : Ending) (w' : World) : Prop :=
  ∃ v d K' β' H', Ext (given K β H w) K β H K' β' H' ∧ WS (given K β H w) K' β' H' w' ∧ DR K' β' true v d ∧ OkD H' d ∧ ((e = .returned v ∧ R (.ret d) H') ∨ (e = .panicked [{ v, recovered := false }] ∧ R (.pan d) H'))
section
variable {P : Program} {C : Ctx} {env : Nat → D} {H : Heap} {dst : Option Nat} {ty : TypeId} {pos : String} {after : Array Edge} {gu : Option (Nat × Bool)} {X : Operand}
/-- yield called: a round. -/
theorem x_yield {as_ : List Operand} {ats : Array TypeId} {ds : List D} {R : DOut → Heap → Prop} {l : Nat} {r : Loop} (hX : ev env X = .v (.func (.yield l) #[] #[])) (hW : C.W.heap[l]? = some (.loop r)) (hB : l < C.B) (hG : ¬ C.G l) (hn : as_.length = r.params.size) (he : ArgsAre env as_ ds)
    (hy : ∀ (K : Mem) (β : Nat → Nat → BT) (w : World) (vs : List Value), WS C K β H w → vs.length = ds.length → (∀ (j : Nat) v d, vs[j]? = some v → ds[j]? = some d → DR K β true v d) → (∀ d ∈ ds, OkD H d) → RoundT P l r vs.toArray w (Post K β H w R)) :
    OpX P C ⟨dst, .call { callee := .value X, args := as_.toArray, argTypes := ats }, ty, pos, after, gu⟩ env H R := by
  refine ⟨fun K β a w Kc Q hw hx hk hr hp => ?_⟩
  have hmX : X ∈ (Op.call { callee := .value X, args := as_.toArray, argTypes := ats }).operands := by simp [Op.operands, Call.operands]
  have hmem : ∀ x ∈ as_, x ∈ (Op.call { callee := .value X, args := as_.toArray, argTypes := ats }).operands := fun x h => by simp [Op.operands, Call.operands, h]
  have hXv : a.eval X = .func (.yield l) #[] #[] := by have h := hx X hmX; rw [hX] at h; exact h.v_inv
  have hh : w.heap[l]? = some (.loop r) := (hw.below.block l hB hG).trans hW
  have hrun : (execOp a.eval ⟨dst, .call { callee := .value X, args := as_.toArray, argTypes := ats }, ty, pos, after, gu⟩).run P w = (Instr.yield l (as_.map a.eval).toArray).run P w := by
    simp [execOp, resolve, hXv, Deferred.ofValue, invoke]
  rw [run_yield hh (by simp [hn])] at hrun
  obtain ⟨h1, h2, h3⟩ := args_rd (H := H) he (fun x h => hx x (hmem x h)) fun x h => hk x (hmem x h)
  refine ⟨fun _ _ => trivial, ?_⟩
  rw [Oper.semAt_eq _ _ _ (fun c h => by cases h), hrun]
  refine ⟨fun e => by simp [FW] at e, round_FW ((hy K β w (as_.map a.eval) hw h1 h2 h3).mono fun e w'' ⟨v, d, K', β', H', k1, k2, k3, k4, k5⟩ => ?_)⟩
  replace k1 := Ext.up hw k1
  replace k2 := hw.back k2
  rcases k5 with ⟨rfl, k5⟩ | ⟨rfl, k5⟩
  · exact hr _ _ _ _ _ _ k5 k1 k2 k3 k4
  · exact hp _ _ _ _ _ _ k5 k1 k2 k3 k4
end
/-! ### A round, out of its body's walk -/
def updPs (env : Nat → D) : List Nat → List D → (Nat → D)
  | p :: ps, d :: ds => updPs (upd env p d) ps ds
  | _, _ => env
theorem params_rd {K : Mem} {β : Nat → Nat → BT} : ∀ (ps : List Nat) (vs : List Value) (ds : List D) (tmps : Array Value) (env : Nat → D), vs.length = ds.length → (∀ p ∈ ps, p < tmps.size) → (∀ (j : Nat) v d, vs[j]? = some v → ds[j]? = some d → DR K β true v d) → (∀ t, DR K β true (tmps.getD t undef) (env t)) →
    (∀ t, DR K β true (((ps.zip vs).foldl (fun (tmps : Array Value) (x : Nat × Value) => tmps.setIfInBounds x.1 x.2) tmps).getD t undef) (updPs env ps ds t)) ∧ ((ps.zip vs).foldl (fun (tmps : Array Value) (x : Nat × Value) => tmps.setIfInBounds x.1 x.2) tmps).size = tmps.size
  | [], _, _, _, _, _, _, _, hr => ⟨by simpa [updPs] using hr, by simp⟩
  | p :: ps, [], [], _, _, _, _, _, hr => ⟨by simpa [updPs] using hr, by simp⟩
  | p :: ps, v :: vs, d :: ds, tmps, env, hl, hp, hv, hr => by
    have hk := hp p (by simp)
    have ih := params_rd ps vs ds (tmps.setIfInBounds p v) (upd env p d) (by simpa using hl) (fun q hq => by rw [Array.size_setIfInBounds]; exact hp q (by simp [hq])) (fun j x y hx hy => hv (j + 1) x y hx hy) fun t => by
      by_cases e : t = p
      · subst e
        rw [upd_at, Array.getD_eq_getD_getElem?, Array.getElem?_setIfInBounds_self_of_lt hk]
        exact hv 0 v d rfl rfl
      · rw [upd_ne _ _ e, Array.getD_eq_getD_getElem?, Array.getElem?_setIfInBounds_ne (Ne.symm e), ← Array.getD_eq_getD_getElem?]
        exact hr t
    exact ⟨ih.1, by rw [List.zip_cons_cons, List.foldl_cons]; exact ih.2.trans (by simp)⟩
  | _ :: _, _ :: _, [], _, _, hl, _, _, _ => by simp at hl
  | _ :: _, [], _ :: _, _, _, hl, _, _, _ => by simp at hl
theorem params_ok {H : Heap} : ∀ (ps : List Nat) (ds : List D) (env : Nat → D), (∀ d ∈ ds, OkD H d) → (∀ t, OkD H (env t)) → ∀ t, OkD H (updPs env ps ds t)
  | [], _, _, _, h, t => by simpa [updPs] using h t
  | _ :: _, [], _, _, h, t => by simpa [updPs] using h t
  | p :: ps, d :: ds, env, hd, h, t => params_ok ps ds (upd env p d) (fun x hx => hd x (by simp [hx])) (fun t => by
      by_cases e : t = p
      · subst e; rw [upd_at]; exact hd d (by simp)
      · rw [upd_ne _ _ e]; exact h t) t
/-- A body's end: off its end; the blocks that are kept are H'. -/
def bodyEnd (H' : Heap) (x : DX) (s : St) : Prop := x = .normal ∧ s.H.take H'.length = H' ∧ OkH H' H'
theorem round_of {P : Program} {C : Ctx} {N : Nat} {s : St} {K0 : Mem} {β0 : Nat → Nat → BT} {a : Act} {w0 : World} (h0 : SR C N K0 β0 s a w0) {l : Nat} {r : Loop} (hr : r.state = .ready ∧ r.pending = none ∧ r.tmps = a.tmps) {H H' : Heap} (hle : HLe s.H H) (hl' : H.length ≤ H'.length) {ds : List D} (hp : ∀ p ∈ r.params.toList, p < N)
    {K : Mem} {β : Nat → Nat → BT} {w : World} {vs : List Value} (hK0 : Mem.le K0 K) (hKl : K l = some (.loop r)) (hag : Agr s.H β0 β) (hws : WS (given K β H w) K β H w) (hl : vs.length = ds.length) (hv : ∀ (j : Nat) v d, vs[j]? = some v → ds[j]? = some d → DR K β true v d) (ho : ∀ d ∈ ds, OkD H d)
    (hb : ∀ C', WC P C' N r.assign ⟨updPs s.env r.params.toList ds, H⟩ (thenQ (fun s1 => ∀ C'', WC P C'' N r.body s1 (bodyEnd H')) fun _ _ => False)) :
    RoundT P l r vs.toArray w (Post K β H w fun o H'' => o = .ret (.v (.bool true)) ∧ H'' = H') := by
  have hh : w.heap[l]? = some (.loop r) := hws.holds l _ hKl
  have hlB : l < w.heap.size := hws.klt hKl
  have hng : ¬ gives β H l := fun ⟨id, b, hb', hrl, e⟩ => by
    have := hws.apart id b hb' hrl
    rw [e, hKl] at this; cases this
  have hin : inert (.loop r) := inert_loop r
  let C1 : Ctx := ⟨w.heap.size, w, gives β H, some l, H, β, K.del l⟩
  have hdl : ∀ b c, (K.del l) b = some c → K b = some c ∧ b ≠ l := fun b c hb' => by
    unfold Mem.del at hb'
    by_cases e : b = l
    · rw [if_pos e] at hb'; cases hb'
    · rw [if_neg e] at hb'; exact ⟨hb', e⟩
  have hw1 : WS C1 (K.del l) β H w := ⟨fun b c hb' => hws.holds b c (hdl b c hb').1, fun id b hb' => (hws.blk id b hb').drop hKl hin, hws.ok, hws.inj, fun id b hb' hrl => by
      unfold Mem.del
      split
      · rfl
      · exact hws.apart id b hb' hrl, fun id b hb' hrl => .inr ⟨id, b, hb', hrl, rfl⟩, Nat.le_refl _, Bel.start _, Agr.refl _ _, HLe.refl _, Mem.le.refl _⟩
  have hfold : (r.params.zip vs.toArray).foldl (fun tmps (t, a) => tmps.setIfInBounds t a) r.tmps = (r.params.toList.zip vs).foldl (fun (tmps : Array Value) (x : Nat × Value) => tmps.setIfInBounds x.1 x.2) a.tmps := by
    rw [hr.2.2, ← Array.foldl_toList, Array.toList_zip]
  obtain ⟨hrd, hsz⟩ := params_rd (K := K.del l) (β := β) r.params.toList vs ds a.tmps s.env hl (fun p hp' => by rw [h0.size]; exact hp p hp') (fun j v d h1 h2 => (hv j v d h1 h2).drop hKl hin) fun t => ((h0.rd t).mono hK0 (fun _ => h0.ok t) hag).drop hKl hin
  have hs1 : SR C1 N (K.del l) β ⟨updPs s.env r.params.toList ds, H⟩ ⟨(r.params.zip vs.toArray).foldl (fun tmps (t, a) => tmps.setIfInBounds t a) r.tmps, []⟩ w :=
    ⟨hw1, by rw [hfold]; exact hsz.trans h0.size, trivial, fun t => by rw [hfold]; exact hrd t, params_ok _ _ _ ho fun t => (h0.ok t).mono hle⟩
  unfold RoundT
  refine roundIn_of_wpIn (F := FW none) trivial ?_
  show r.assign.wpIn (FW C1.rd) 0 P _ _ w
  refine wpIn_mono (hb C1 _ _ _ _ hs1) fun e a1 w1 hA => ?_
  cases e with
  | normal =>
    obtain ⟨K1, β1, s1, hX1, hs1', hbody⟩ := hA.normal
    have hl1 : w1.heap[l]? = some (.loop r) := (hs1'.ws.below.block l hlB hng).trans hh
    have hK1l : K1 l = none := by
      cases e : K1 l with
      | none => rfl
      | some o =>
        rcases hX1.kx.new l o e with h1 | h1 | h1
        · exact absurd rfl (hdl l o h1).2
        · exact absurd hlB (Nat.not_lt.2 h1)
        · exact absurd h1 hng
    refine ⟨_, run_beginRound hl1 hr.1, ?_⟩
    have hlt1 : l < w1.heap.size := (Array.getElem?_eq_some_iff.1 hl1).1
    let w2 := w1.putObj l (.loop { r with state := .busy })
    let C2 : Ctx := { C1 with W := w2 }
    have hne : ∀ {β' : Nat → Nat → BT} {K' : Mem} {H'' : Heap} {w' : World} (h : WS C2 K' β' H'' w') {id : Nat} {b : Blk}, H''[id]? = some (some b) → (β' id b.ver).real = true → (β' id b.ver).blk ≠ l := fun {β' K' H'' w'} h {id b} hb' hrl e => by
      rcases h.base id b hb' hrl with h1 | h1
      · rw [e] at h1; exact absurd hlB (Nat.not_lt.2 h1)
      · rw [e] at h1; exact hng h1
    have hne1 : ∀ {id : Nat} {b : Blk}, s1.H[id]? = some (some b) → (β1 id b.ver).real = true → (β1 id b.ver).blk ≠ l := fun {id b} hb' hrl e => by
      rcases hs1'.ws.base id b hb' hrl with h1 | h1
      · rw [e] at h1; exact absurd hlB (Nat.not_lt.2 h1)
      · rw [e] at h1; exact hng h1
    have hw2 : WS C2 K1 β1 s1.H w2 := ⟨fun b c hb' => by
        rw [World.putObj_heap_other (fun e => by rw [e, hK1l] at hb'; cases hb')]; exact hs1'.ws.holds b c hb', fun id b hb' => (hs1'.ws.blk id b hb').other fun hrl => World.putObj_heap_other (hne1 hb' hrl), hs1'.ws.ok, hs1'.ws.inj, hs1'.ws.apart, hs1'.ws.base, by
        show C1.B ≤ (w1.putObj _ _).heap.size
        rw [World.putObj_size]; exact hs1'.ws.size, ⟨rfl, rfl, rfl, Nat.le_refl _, fun _ _ _ => rfl⟩, hs1'.ws.agr, hs1'.ws.hle, hs1'.ws.kle⟩
    have hs2 : SR C2 N K1 β1 s1 a1 w2 := ⟨hw2, hs1'.size, hs1'.defers, hs1'.rd, hs1'.ok⟩
    refine wpIn_mono (hbody C2 K1 β1 a1 w2 hs2) fun e3 a3 w3 hA3 => ?_
    obtain ⟨K3, β3, s3, x3, hX3, hs3, hx3, rfl, ht, hokH⟩ := hA3
    cases e3 <;> first | exact hx3.elim | skip
    have hl3 : w3.heap[l]? = some (.loop { r with state := .busy }) := (hs3.ws.below.block l hlB hng).trans (World.putObj_heap_same hlt1)
    have hlt3 : l < w3.heap.size := (Array.getElem?_eq_some_iff.1 hl3).1
    have hre : ({ ({ r with state := .busy } : Loop) with state := if (none : Option Code).isNone then .ready else .done, pending := none } : Loop) = r := by
      obtain ⟨h1, h2, _⟩ := hr
      cases r
      simp_all
    have hend := run_endRound (P := P) none hl3
    rw [hre] at hend
    refine ⟨_, _, hend, ?_⟩
    have hK3l : K3 l = none := by
      cases e : K3 l with
      | none => rfl
      | some o =>
        rcases hX3.kx.new l o e with h1 | h1 | h1
        · rw [hK1l] at h1; cases h1
        · exact absurd hlB (Nat.not_lt.2 h1)
        · exact absurd h1 hng
    have hle3 : Mem.le K3 (K3.add l (.loop r)) := Mem.le_add hK3l
    have hKle : Mem.le K (K3.add l (.loop r)) := fun b c hb' => by
      by_cases e : b = l
      · subst e; rw [hKl] at hb'; cases hb'; unfold Mem.add; rw [if_pos rfl]
      · exact hle3 _ _ (hX3.kx.le _ _ (hX1.kx.le _ _ (by unfold Mem.del; rw [if_neg e]; exact hb')))
    have hHle : HLe H H' := by
      have h1 := (hX1.le.trans hX3.le).take hl'
      rwa [ht] at h1
    have hagr : Agr H β β3 := hX1.ag.up hX1.le hX3.ag
    have hw3 := wsTake hs3.ws H'.length (by rw [ht]; exact hokH.at) (by rw [ht]; exact hHle)
    rw [ht] at hw3
    refine ⟨_, .v (.bool true), K3.add l (.loop r), β3, H', ⟨⟨hKle, fun b c hb' => ?_⟩, hagr, hHle⟩, ⟨fun b c hb' => ?_, fun id b hb' => ?_, hw3.ok, hw3.inj, fun id b hb' hrl => ?_, hw3.base, ?_, ?_, hagr, hHle, hKle⟩, .v _ _, .v _, .inl ⟨rfl, rfl, rfl⟩⟩
    · by_cases e : b = l
      · subst e; unfold Mem.add at hb'; rw [if_pos rfl] at hb'; cases hb'; exact .inl hKl
      · unfold Mem.add at hb'
        rw [if_neg e] at hb'
        rcases hX3.kx.new b c hb' with h1 | h1
        · rcases hX1.kx.new b c h1 with h2 | h2
          · exact .inl (hdl b c h2).1
          · exact .inr h2
        · exact .inr h1
    · by_cases e : b = l
      · subst e; unfold Mem.add at hb'; rw [if_pos rfl] at hb'; cases hb'; exact World.putObj_heap_same hlt3
      · unfold Mem.add at hb'
        rw [if_neg e] at hb'
        rw [World.putObj_heap_other e]; exact hs3.ws.holds b c hb'
    · exact ((hw3.blk id b hb').mono hle3 (hw3.ok id b hb') (Agr.refl _ _)).other fun hrl => World.putObj_heap_other (hne hw3 hb' hrl)
    · unfold Mem.add
      rw [if_neg (hne hw3 hb' hrl)]; exact hw3.apart id b hb' hrl
    · rw [World.putObj_size]; exact hw3.size
    · refine ⟨hs3.ws.below.os.trans hs1'.ws.below.os, hs3.ws.below.tape.trans hs1'.ws.below.tape, hs3.ws.below.output.trans hs1'.ws.below.output, by rw [World.putObj_size]; exact hw3.size, fun k hk hg => ?_⟩
      by_cases e : k = l
      · subst e; rw [World.putObj_heap_same hlt3]; exact hh.symm
      · rw [World.putObj_heap_other e]
        refine (hs3.ws.below.block k hk hg).trans ?_
        show (w1.putObj _ _).heap[k]? = _
        rw [World.putObj_heap_other e]; exact hs1'.ws.below.block k hk hg
  | _ =>
    obtain ⟨K1, β1, s1, x, _, _, hx, hq⟩ := hA
    cases x <;> first | exact hx.elim | exact hq.elim
end Go.DL
