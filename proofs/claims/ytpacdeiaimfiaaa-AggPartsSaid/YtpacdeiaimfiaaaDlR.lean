/-
  A logic of data for the walks: guards within guards, loops that tell what they change, what is pure. Plain lemmas over any program; no condition.
-/
import Derived.Test.YtpacdeiaimfiaaaDlQ
set_option linter.unusedSimpArgs false
set_option linter.unusedVariables false
namespace Go.DL
open Go.RowKit

abbrev Bo (b : Bool) : D := .v (.bool b)
theorem gdT {G : Bool} {d : D} (h : G = true) : gd G d = d := by rw [h]; rfl
theorem gdS {G x : Bool} {d : D} (h : G = true) : gd (G && x) d = gd x d := by rw [h]; rfl
theorem evT {x G : Bool} (h : (G && x) = true) : G = true := (Bool.and_eq_true_iff.1 h).1
section
variable {P : Program} {C : Ctx} {N : Nat} {ops : Array Oper} {rest : List Oper} {o : Oper} {s : St} {F : DX → St → Prop}
/-- An operation behind a guard that nothing guards. -/
theorem RG.opg1 (b : Bool) (j : Nat) (want : Bool) (t : Nat) (d : D) (hg : o.guard = some (j, want)) (ht : (ops[j]?).bind (·.dst) = some t) (hlt : Nat.blt t N = true) (hb : s.env t = .v (.bool b)) (hf : fits N o = true)
    (h : (b == want) = true → OpD P C o s.env s.H d s.H) (hr : RG P C N ops rest ⟨updO s.env o.dst (gd (b == want) d), s.H⟩ F) : RG P C N ops (o :: rest) s F :=
  RG.opg b j want t d hg ht hlt hb hf (fun e => h (by rw [e]; simp)) hr
theorem gd_yield {K : Mem} {β : Nat → Nat → BT} {a : Act} {t j : Nat} {G p want : Bool} (hg : o.guard = some (j, want)) (ht : (ops[j]?).bind (·.dst) = some t) (hlt : t < a.tmps.size) (hd : DR K β true (a.tmps.getD t undef) (gd G (.v (.bool p)))) : Region.wanted o (yielded ops a.tmps) = (G && (p == want)) := by
  cases G with
  | true =>
    have hy : yielded ops a.tmps j = some p := yielded_of ht hlt hd
    simp only [Region.wanted, hg, hy]
    cases p <;> cases want <;> rfl
  | false =>
    have e : a.tmps.getD t undef = undef := hd.v_inv
    have hy : yielded ops a.tmps j = none := by
      unfold yielded
      rw [ht]
      have e' : a.tmps[t]? = some undef := by
        rw [Array.getElem?_eq_getElem hlt]
        rw [Array.getD_eq_getD_getElem?, Array.getElem?_eq_getElem hlt] at e
        simpa using e
      simp [e', undef]
    simp only [Region.wanted, hg, hy]
    cases want <;> rfl
/-- An operation behind a guard that is itself behind one. -/
theorem RG.opg2 (G p : Bool) (j : Nat) (want : Bool) (t : Nat) (d : D) (hg : o.guard = some (j, want)) (ht : (ops[j]?).bind (·.dst) = some t) (hlt : Nat.blt t N = true) (hb : s.env t = gd G (.v (.bool p))) (hf : fits N o = true)
    (h : (G && (p == want)) = true → OpD P C o s.env s.H d s.H) (hr : RG P C N ops rest ⟨updO s.env o.dst (gd (G && (p == want)) d), s.H⟩ F) : RG P C N ops (o :: rest) s F := by
  intro K β a w Q hs hq
  refine listW_step fun Kc hK => ?_
  rw [gd_yield hg ht (by rw [hs.size]; simpa [Nat.blt_eq] using hlt) (hb ▸ hs.rd t)]
  cases hbw : (G && (p == want)) with
  | true =>
    simp only [if_true]
    rw [hbw] at hr
    refine (h hbw).go K β a w Kc Q hs.ws (fun x _ => hs.ev x) (fun x _ => hs.evok x) fun K' β' v w' hx hβ hw hv ho => hK _ _ ?_
    exact hr K' β' _ w' Q (hs.put hx.le hβ hw (HLe.refl _) hv ho hf) fun e a' w'' hA => hq _ _ _ (hA.mono ⟨hx, hβ, HLe.refl _⟩ fun _ _ h => h)
  | false =>
    simp only [Bool.false_eq_true, if_false]
    rw [hbw] at hr
    exact hK _ _ (hr K β _ w Q (hs.put (Mem.le.refl K) (Agr.refl _ _) hs.ws (HLe.refl _) (.v _ _) (.v _) hf) fun e a' w'' hA => hq _ _ _ hA)
/-- A call of which one outcome is known. -/
theorem RG.opM (d : D) (H' : Heap) (hg : o.guard = none) (hf : fits N o = true) (h : OpX P C o s.env s.H fun x H'' => x = .ret d ∧ H'' = H') (hr : RG P C N ops rest ⟨updO s.env o.dst d, H'⟩ F) : RG P C N ops (o :: rest) s F :=
  RG.opX _ hg hf h (by rintro _ _ ⟨⟨⟩, rfl⟩; exact hr) (by rintro _ _ ⟨h, _⟩; cases h)
end
section
variable {P : Program} {C : Ctx} {N : Nat} {ops : Array Oper} {Hs : Heap → Prop} {i : Nat} {o : Oper} {rest : List Oper} {env : Nat → D} {H H1 : Heap} {F : List (D × Bool × Heap) → (Nat → D) → Heap → Prop} {d : D}
theorem Stp.opg2 (G p : Bool) (j : Nat) (want : Bool) (t : Nat) (ho : ops[i]? = some o) (hg : o.guard = some (j, want)) (ht : (ops[j]?).bind (·.dst) = some t) (hlt : Nat.blt t N = true) (hb : env t = gd G (.v (.bool p)))
    (h : (G && (p == want)) = true → OpD P C o env H d H) : Stp P C N ops i env H (gd (G && (p == want)) d) H := by
  refine ⟨HLe.refl _, fun o' ho' K β a w Kc Q hw hN hx hn => ?_⟩
  rw [ho] at ho'; cases ho'
  obtain ⟨h1, h2⟩ := looks_op hx
  have htm : t ∈ o.looksAt ops := List.mem_append_right _ (by simp [hg, ht])
  unfold wpOpIn
  simp only [ho]
  rw [gd_yield hg ht (by rw [hN]; simpa [Nat.blt_eq] using hlt) (hb ▸ (hx t htm).1)]
  cases hbw : (G && (p == want)) with
  | true =>
    simp only [if_true]
    rw [hbw] at hn
    exact ((h hbw).go K β a w Kc Q hw h1 h2 hn)
  | false =>
    simp only [Bool.false_eq_true, if_false]
    rw [hbw] at hn
    exact ⟨fun _ _ => trivial, hn K β undef w (KX.refl _ _) (Agr.refl _ _) hw (.v _ _) (.v _)⟩
theorem PG.opg1 (d : D) (b : Bool) (j : Nat) (want : Bool) (t : Nat) (ho : ops[i]? = some o) (hg : o.guard = some (j, want)) (ht : (ops[j]?).bind (·.dst) = some t) (hlt : Nat.blt t N = true) (hb : env t = .v (.bool b)) (hf : fits N o = true)
    (h : (b == want) = true → ∀ H, Hs H → OpD P C o env H d H) (r : PG P C N ops Hs (i + 1) rest (updO env o.dst (gd (b == want) d)) H fun l e h => F ((gd (b == want) d, false, H) :: l) e h) : PG P C N ops Hs i (o :: rest) env H F :=
  PG.opg d b j want t ho hg ht hlt hb hf (fun e => h (by rw [e]; simp)) r
theorem PG.opg2 (d : D) (G p : Bool) (j : Nat) (want : Bool) (t : Nat) (ho : ops[i]? = some o) (hg : o.guard = some (j, want)) (ht : (ops[j]?).bind (·.dst) = some t) (hlt : Nat.blt t N = true) (hb : env t = gd G (.v (.bool p))) (hf : fits N o = true)
    (h : (G && (p == want)) = true → ∀ H, Hs H → OpD P C o env H d H) (r : PG P C N ops Hs (i + 1) rest (updO env o.dst (gd (G && (p == want)) d)) H fun l e h => F ((gd (G && (p == want)) d, false, H) :: l) e h) : PG P C N ops Hs i (o :: rest) env H F :=
  let ⟨_, e', H', pl, f⟩ := r; ⟨_, e', H', .pure _ hf (fun H hH => .opg2 G p j want t ho hg ht hlt hb fun e => h e H hH) pl, f⟩
end

/-! ### Loops whose blocks are those at the entry, but for some -/
def updH (H : Heap) : List (Nat × Option Blk) → Heap
  | [] => H
  | (k, b) :: l => (updH H l).set k b
theorem WC.loopU {P : Program} {C : Ctx} {N : Nat} {s : St} {Q : DX → St → Prop} {c : Code} {G : Type} (W : List Nat) (A : G → List (Nat × D)) (U : G → List (Nat × Option Blk)) (I : G → Prop) (m : G → Nat) (g0 : G) (hI : I g0) (h0 : Head s.H s.env W (A g0) (updH s.H (U g0)) s)
    (round : ∀ g, I g → WC P C N c ⟨updL (forget W s.env) (A g), updH s.H (U g)⟩ (thenQ (fun s' => ∃ g', I g' ∧ m g' < m g ∧ Head s.H s.env W (A g') (updH s.H (U g')) s') Q)) : WC P C N (.loop c) s Q :=
  WC.loop W A (fun g => updH s.H (U g)) I m g0 hI h0 round
/-- Where ways meet. -/
theorem WC.joinU {P : Program} {C : Ctx} {N : Nat} {s : St} {Q : DX → St → Prop} {x y : Code} {G : Type} (W : List Nat) (A : G → List (Nat × D)) (U : G → List (Nat × Option Blk)) (I : G → Prop) (hx : WC P C N x s (thenQ (fun s' => ∃ g, I g ∧ Head s.H s.env W (A g) (updH s.H (U g)) s') Q))
    (hy : ∀ g, I g → WC P C N y ⟨updL (forget W s.env) (A g), updH s.H (U g)⟩ Q) : WC P C N (.seq x y) s Q :=
  WC.join W A (fun g => updH s.H (U g)) I hx hy

/-! ### What is pure -/
theorem pu_nil : ∀ c ∈ ([] : List D), Pure' c := by simp
theorem pu_cons {d : D} {l : List D} (h : Pure' d) (hl : ∀ c ∈ l, Pure' c) : ∀ c ∈ d :: l, Pure' c := fun c hc => by
  rcases List.mem_cons.1 hc with rfl | hc
  · exact h
  · exact hl c hc
theorem pu_app {l m : List D} (hl : ∀ c ∈ l, Pure' c) (hm : ∀ c ∈ m, Pure' c) : ∀ c ∈ l ++ m, Pure' c := fun c hc => by
  rcases List.mem_append.1 hc with hc | hc
  · exact hl c hc
  · exact hm c hc
theorem pu_bytes (l : List UInt8) : ∀ c ∈ bytesD l, Pure' c := fun c hc => by
  obtain ⟨b, _, rfl⟩ := List.mem_map.1 hc
  exact .v _
theorem pu_map {α : Type} {g : α → D} (h : ∀ a, Pure' (g a)) (l : List α) : ∀ c ∈ l.map g, Pure' c := fun c hc => by
  obtain ⟨b, _, rfl⟩ := List.mem_map.1 hc
  exact h b
theorem pu_flatMap {α : Type} {f : α → List D} (h : ∀ a, ∀ c ∈ f a, Pure' c) (l : List α) : ∀ c ∈ l.flatMap f, Pure' c := fun c hc => by
  obtain ⟨b, _, hb⟩ := List.mem_flatMap.1 hc
  exact h b c hb
theorem pu_vs {cs : List D} (h : cs.all isV = true) : ∀ d ∈ cs, Pure' d := allV h
theorem one_nil : ∀ c ∈ ([] : List D), oneD c = true := by simp
theorem one_cons {d : D} {l : List D} (h : oneD d = true) (hl : ∀ c ∈ l, oneD c = true) : ∀ c ∈ d :: l, oneD c = true := fun c hc => by
  rcases List.mem_cons.1 hc with rfl | hc
  · exact h
  · exact hl c hc
theorem one_app {l m : List D} (hl : ∀ c ∈ l, oneD c = true) (hm : ∀ c ∈ m, oneD c = true) : ∀ c ∈ l ++ m, oneD c = true := fun c hc => by
  rcases List.mem_append.1 hc with hc | hc
  · exact hl c hc
  · exact hm c hc
theorem one_map {α : Type} {g : α → D} (h : ∀ a, oneD (g a) = true) (l : List α) : ∀ c ∈ l.map g, oneD c = true := fun c hc => by
  obtain ⟨b, _, rfl⟩ := List.mem_map.1 hc
  exact h b
theorem one_flatMap {α : Type} {f : α → List D} (h : ∀ a, ∀ c ∈ f a, oneD c = true) (l : List α) : ∀ c ∈ l.flatMap f, oneD c = true := fun c hc => by
  obtain ⟨b, _, hb⟩ := List.mem_flatMap.1 hc
  exact h b c hb
theorem okp {H : Heap} {l : List D} (h : ∀ c ∈ l, Pure' c) : ∀ c ∈ l, OkD H c := fun c hc => (h c hc).ok H
theorem Frz.pure' {H : Heap} {d : D} (h : Pure' d) : Frz H d d := by
  induction h with
  | any => exact .any
  | v x => exact .v x
  | rd n cs => exact .rd n cs
  | adr cs => exact .adr cs
  | agg cs _ ih => exact .agg cs cs rfl fun j c d hc hd => by rw [hc] at hd; cases hd; exact ih c (List.mem_of_getElem? hc)
  | tup cs _ ih => exact .tup cs cs rfl fun j c d hc hd => by rw [hc] at hd; cases hd; exact ih c (List.mem_of_getElem? hc)
  | fn f cs _ ih => exact .fn f cs cs rfl fun j c d hc hd => by rw [hc] at hd; cases hd; exact ih c (List.mem_of_getElem? hc)
  | iface t d _ ih => exact .iface t d d ih
  | mp ks cs => exact .mp ks cs
/-- A row of the call's own whose cells are pure. -/
theorem Frz.row {H : Heap} {id ver n sz : Nat} {b : Blk} (hb : H[id]? = some (some b)) (hv : b.ver = ver) (hp : ∀ c ∈ b.cs, Pure' c) : Frz H (.own id ver 0 n sz) (.rd n b.cs) := by
  subst hv
  refine .own id 0 n sz b b.cs hb (by omega) fun j c d hc hd => ?_
  rw [Nat.zero_add, hd] at hc
  have e : d = c := by simpa using hc
  subst e
  exact .pure' (hp d (List.mem_of_getElem? hd))
theorem Frz.tb {H : Heap} {id n sz : Nat} {e : TypeId} {cs : List D} (hb : H[id]? = some (tb e n cs)) (hp : ∀ c ∈ cs, Pure' c) : Frz H (ow id n sz) (.rd n cs) := Frz.row hb rfl hp
/-- A map of the call's own whose values are pure. -/
theorem Frz.map {H : Heap} {id : Nat} {b : Blk} (ks : List Value) (ds : List D) (hb : H[id]? = some (some b)) (hv : b.ver = 0) (hcs : b.cs = (ks.zip ds).map fun p => .tup [.v p.1, p.2]) (hl : ks.length = ds.length) (hp : ∀ c ∈ ds, Pure' c) : Frz H (.omp id 0) (.mp ks ds) := by
  rw [← hv]
  have hlen : b.cs.length = ds.length := by rw [hcs]; simp [hl]
  refine .omp id b ks ds hb hlen hl (fun j c hc => ?_) fun j k c d hc hd => ?_
  · rw [hcs, List.getElem?_map] at hc
    cases hz : (ks.zip ds)[j]? with
    | none => rw [hz] at hc; cases hc
    | some p =>
      rw [hz] at hc
      have := List.getElem?_zip_eq_some.1 hz
      exact ⟨p.1, p.2, by simpa using hc.symm, this.1⟩
  · rw [hcs, List.getElem?_map] at hc
    cases hz : (ks.zip ds)[j]? with
    | none => rw [hz] at hc; cases hc
    | some p =>
      rw [hz] at hc
      have h2 := (List.getElem?_zip_eq_some.1 hz).2
      rw [hd] at h2
      simp at hc
      obtain ⟨rfl, rfl⟩ := hc
      have e : d = p.2 := by simpa using h2
      subst e
      exact .pure' (hp _ (List.mem_of_getElem? hd))
/-- Read through nil: where a slice is wanted. -/
theorem Frz.nilr {H : Heap} : Frz H (.v (.slice none 0 0)) (.rd 0 []) := .nilv
end Go.DL
