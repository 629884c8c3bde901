/-
  A logic of data for the walks: an evaluator of code on exact data: regions, code, functions. Plain lemmas over any program; no condition.
-/
import Derived.Test.YtbdibcpenihpdaaDlZb
import Derived.LoopNIn
set_option linter.unusedSimpArgs false
set_option linter.unusedVariables false
namespace Go.DL
open Go.RowKit

/-! ### Guards -/
noncomputable def guardAt (ops : Array Oper) (N : Nat) (env : Tr D) (o : Oper) : Option Bool := match o.guard with
  | none => some true
  | some (j, want) => (match (ops[j]?).bind (·.dst) with
    | none => none
    | some t => bif Nat.blt t N then (match absE env t with
      | .v (.bool b) => some (b == want)
      | .v (.tuple ⟨[]⟩) => some false
      | _ => none) else none)
inductive GOpen (ops : Array Oper) (N : Nat) (env : Nat → D) (o : Oper) : Prop
  | none (h : o.guard = none) : GOpen ops N env o
  | on (j : Nat) (want : Bool) (t : Nat) (hg : o.guard = some (j, want)) (ht : (ops[j]?).bind (·.dst) = some t) (hlt : Nat.blt t N = true) (hb : env t = .v (.bool want)) : GOpen ops N env o
inductive GShut (ops : Array Oper) (N : Nat) (env : Nat → D) (o : Oper) : Prop
  | off (j : Nat) (want b : Bool) (t : Nat) (hg : o.guard = some (j, want)) (ht : (ops[j]?).bind (·.dst) = some t) (hlt : Nat.blt t N = true) (hb : env t = .v (.bool b)) (hne : b ≠ want) : GShut ops N env o
  | undef (j : Nat) (want : Bool) (t : Nat) (hg : o.guard = some (j, want)) (ht : (ops[j]?).bind (·.dst) = some t) (hlt : Nat.blt t N = true) (hb : env t = .v undef) : GShut ops N env o
theorem guardAt_eq {ops : Array Oper} {N : Nat} {env : Tr D} {o : Oper} {b : Bool} (h : guardAt ops N env o = some b) : (b = true → GOpen ops N (absE env) o) ∧ (b = false → GShut ops N (absE env) o) := by
  unfold guardAt at h
  split at h
  · rename_i hg; cases h; exact ⟨fun _ => .none hg, fun h => by cases h⟩
  · rename_i j want hg
    split at h
    · cases h
    · rename_i t ht
      have hlt := (bif_some h).1; replace h := (bif_some h).2
      split at h
      · rename_i b' hb
        cases h
        refine ⟨fun h => .on j want t hg ht hlt (by rw [hb]; congr 2; simpa using h), fun h => .off j want b' t hg ht hlt hb (by simpa using h)⟩
      · rename_i hb; cases h; exact ⟨fun h => (by cases h), fun _ => .undef j want t hg ht hlt hb⟩
      · cases h
section
variable {P : Program} {C : Ctx} {N : Nat} {ops : Array Oper} {rest : List Oper} {o : Oper} {env : Nat → D} {H : Heap} {F : DX → St → Prop}
theorem rg_run (R : DOut → Heap → Prop) (hg : GOpen ops N env o) (hf : fits N o = true) (h : OpX P C o env H R) (hr : ∀ d H', R (.ret d) H' → RG P C N ops rest ⟨updO env o.dst d, H'⟩ F) (hp : ∀ d H', R (.pan d) H' → F (.panic d) ⟨env, H'⟩) : RG P C N ops (o :: rest) ⟨env, H⟩ F := by
  cases hg with
  | none hg => exact RG.opX R hg hf h hr hp
  | on j want t hg ht hlt hb => exact RG.opgX want j want t R hg ht hlt hb hf (fun _ => h) (fun _ => hr) (fun _ => hp) fun h => absurd rfl h
theorem rg_skip (hg : GShut ops N env o) (hf : fits N o = true) (hr : RG P C N ops rest ⟨updO env o.dst (.v undef), H⟩ F) : RG P C N ops (o :: rest) ⟨env, H⟩ F := by
  cases hg with
  | off j want b t hg ht hlt hb hne => exact RG.opgX b j want t (fun _ _ => False) hg ht hlt hb hf (fun h => absurd h hne) (fun h => absurd h hne) (fun h => absurd h hne) fun _ => hr
  | undef j want t hg ht hlt hb => exact RG.opg2 false true j want t (.v undef) hg ht hlt hb hf (fun h => by cases h) hr
variable {i : Nat} {d : D} {H' : Heap}
theorem stp_run (ho : ops[i]? = some o) (hg : GOpen ops N env o) (h : OpD P C o env H d H') : Stp P C N ops i env H d H' := by
  cases hg with
  | none hg => exact .op ho hg h
  | on j want t hg ht hlt hb =>
    refine ⟨h.len, fun o' ho' K β a w Kc Q hw hN hx hn => ?_⟩
    rw [ho] at ho'; cases ho'
    obtain ⟨h1, h2⟩ := looks_op hx
    have htm : t ∈ o.looksAt ops := List.mem_append_right _ (by simp [hg, ht])
    have hy : yielded ops a.tmps j = some want := yielded_of ht (by rw [hN]; simpa [Nat.blt_eq] using hlt) (hb ▸ (hx t htm).1)
    unfold wpOpIn
    simp only [ho]
    rw [show Region.wanted o (yielded ops a.tmps) = true by simp [Region.wanted, hg, hy]]
    simp only [if_true]
    exact (h.go K β a w Kc Q hw h1 h2 hn)
theorem stp_skip (ho : ops[i]? = some o) (hg : GShut ops N env o) : Stp P C N ops i env H (.v undef) H := by
  cases hg with
  | off j want b t hg ht hlt hb hne =>
    have := Stp.opg (P := P) (C := C) (N := N) (env := env) (H := H) (d := .v undef) b j want t ho hg ht hlt hb (fun h => absurd h hne)
    rwa [show (b == want) = false by simpa using hne] at this
  | undef j want t hg ht hlt hb => exact Stp.opg2 (P := P) (C := C) (N := N) (env := env) (H := H) (d := .v undef) false true j want t ho hg ht hlt hb (fun h => by cases h)
end

/-! ### Data held against each other -/
def veq : Value → Value → Bool
  | .int k a, .int k' b => decide (k = k') && decide (a = b)
  | .bool a, .bool b => a == b
  | .string a, .string b => decide (a.data.toList = b.data.toList)
  | .slice none a b, .slice none c d => Nat.beq a c && Nat.beq b d
  | .pointer none, .pointer none => true
  | .nilFunc, .nilFunc => true
  | .nilIface, .nilIface => true
  | .map none, .map none => true
  | .func f ⟨[]⟩ ⟨[]⟩, .func g ⟨[]⟩ ⟨[]⟩ => decide (f = g)
  | .tuple ⟨[]⟩, .tuple ⟨[]⟩ => true
  | _, _ => false
theorem veq_eq {a b : Value} (h : veq a b = true) : a = b := by
  unfold veq at h
  split at h
  · simp only [Bool.and_eq_true, decide_eq_true_eq] at h; rw [h.1, h.2]
  · rw [beq_iff_eq.1 h]
  · rename_i x y
    obtain ⟨⟨x⟩⟩ := x
    obtain ⟨⟨y⟩⟩ := y
    simp only [decide_eq_true_eq] at h; rw [h]
  · rw [Bool.and_eq_true] at h; rw [Nat.eq_of_beq_eq_true h.1, Nat.eq_of_beq_eq_true h.2]
  · rfl
  · rfl
  · rfl
  · rfl
  · simp only [decide_eq_true_eq] at h; rw [h]
  · rfl
  · cases h
def allEq (f : D → D → Bool) : List D → List D → Bool
  | [], [] => true
  | a :: l, b :: m => f a b && allEq f l m
  | _, _ => false
theorem allEq_eq {f : D → D → Bool} (h : ∀ a b, f a b = true → a = b) : ∀ {l m : List D}, allEq f l m = true → l = m
  | [], [], _ => rfl
  | a :: l, b :: m, e => by
    rw [allEq, Bool.and_eq_true] at e
    rw [h _ _ e.1, allEq_eq h e.2]
  | [], _ :: _, e => by cases e
  | _ :: _, [], e => by cases e
def deq : Nat → D → D → Bool
  | 0, _, _ => false
  | n + 1, a, b => match a, b with
    | .v x, .v y => veq x y
    | .agg l, .agg m => allEq (deq n) l m
    | .tup l, .tup m => allEq (deq n) l m
    | .rd k l, .rd k' m => Nat.beq k k' && allEq (deq n) l m
    | .adr l, .adr m => allEq (deq n) l m
    | .fn f l, .fn g m => decide (f = g) && allEq (deq n) l m
    | .own a b c d e, .own a' b' c' d' e' => Nat.beq a a' && Nat.beq b b' && Nat.beq c c' && Nat.beq d d' && Nat.beq e e'
    | .ptr a b c, .ptr a' b' c' => Nat.beq a a' && Nat.beq b b' && Nat.beq c c'
    | .omp a b, .omp a' b' => Nat.beq a a' && Nat.beq b b'
    | .iface t x, .iface u y => Nat.beq t u && deq n x y
    | _, _ => false
theorem deq_eq : ∀ (n : Nat) (a b : D), deq n a b = true → a = b
  | 0, _, _, h => by cases h
  | n + 1, a, b, h => by
    unfold deq at h
    split at h
    · rw [veq_eq h]
    · rw [allEq_eq (deq_eq n) h]
    · rw [allEq_eq (deq_eq n) h]
    · rw [Bool.and_eq_true] at h; rw [Nat.eq_of_beq_eq_true h.1, allEq_eq (deq_eq n) h.2]
    · rw [allEq_eq (deq_eq n) h]
    · simp only [Bool.and_eq_true, decide_eq_true_eq] at h; rw [h.1, allEq_eq (deq_eq n) h.2]
    · simp only [Bool.and_eq_true] at h
      obtain ⟨⟨⟨⟨h1, h2⟩, h3⟩, h4⟩, h5⟩ := h
      rw [Nat.eq_of_beq_eq_true h1, Nat.eq_of_beq_eq_true h2, Nat.eq_of_beq_eq_true h3, Nat.eq_of_beq_eq_true h4, Nat.eq_of_beq_eq_true h5]
    · simp only [Bool.and_eq_true] at h
      obtain ⟨⟨h1, h2⟩, h3⟩ := h
      rw [Nat.eq_of_beq_eq_true h1, Nat.eq_of_beq_eq_true h2, Nat.eq_of_beq_eq_true h3]
    · rw [Bool.and_eq_true] at h; rw [Nat.eq_of_beq_eq_true h.1, Nat.eq_of_beq_eq_true h.2]
    · rw [Bool.and_eq_true] at h; rw [Nat.eq_of_beq_eq_true h.1, deq_eq n _ _ h.2]
    · cases h

/-! ### Regions -/
abbrev Res := Option (DX × Tr D × EH)
/-- The identity: where it stands, what is reckoned so far is laid down. -/
def goR {α β γ : Type} (f : α → β → γ) (a : α) (b : β) : γ := f a b
section
variable {P : Program} (T : Tab P) (call : FuncId → List D → EH → Option (DOut × EH × Bool)) (N : Nat) (ops : Array Oper)
noncomputable def evOps : List Oper → Tr D → EH → Res
  | [], env, H => some (.normal, env, H)
  | o :: rest, env, H => match guardAt ops N env o with
    | none => none
    | some false => bif fits N o then setOK env o.dst (.v undef) fun env' => goR (evOps rest) env' H else none
    | some true => bif fits N o then evO T call env H o (fun _ d H' => frc 4 d fun d' => setOK env o.dst d' fun env' => goR (evOps rest) env' H') (fun d H' => some (.panic d, env, H')) else none
structure Ent where
  o : Oper
  env : Tr D
  d : D
  c : Bool
  H : EH
noncomputable def evDr : List Oper → Tr D → EH → Option (List Ent × Tr D × EH)
  | [], env, H => some ([], env, H)
  | o :: rest, env, H => match guardAt ops N env o with
    | none => none
    | some false => bif fits N o then setOK env o.dst (.v undef) fun env' => (match evDr rest env' H with | some (l, e, h) => some (⟨o, env, .v undef, false, H⟩ :: l, e, h) | none => none) else none
    | some true => bif fits N o then evO T call env H o (fun c d H' => frc 4 d fun d' => setOK env o.dst d' fun env' => (match evDr rest env' H' with | some (l, e, h) => some (⟨o, env, d', c, H'⟩ :: l, e, h) | none => none)) (fun _ _ => none) else none
/-- What changes no block makes the same whenever it comes. -/
noncomputable def same1 (hs : List EH) (x : Ent) : Bool := x.c || (match guardAt ops N x.env x.o with
  | some false => true
  | some true => hs.all fun H2 => (match evO T call x.env H2 x.o (fun c d2 _ => bif !c && deq 8 x.d d2 then some () else none) (fun _ _ => none) with | some _ => true | none => false)
  | none => false)
noncomputable def evDrawn (env : Tr D) (H : EH) : Res := match evDr T call N ops ops.toList env H with
  | none => none
  | some (l, e, h) => bif drawOK ops (l.map (·.c)) && (bif l.all (fun x => !x.c) then true else l.all (same1 T call N ops (H :: (l.filter (·.c)).map (·.H)))) then some (.normal, e, h) else none
end
section
variable {P : Program} {T : Tab P} {call : FuncId → List D → EH → Option (DOut × EH × Bool)} {N : Nat} {ops : Array Oper}
theorem evOps_snd (hok : CallOk P call) : ∀ (rest : List Oper) (env : Tr D) (H : EH) (x : DX) (env' : Tr D) (H' : EH), evOps T call N ops rest env H = some (x, env', H') → (HLe H.abs H'.abs ∧ Mono H H') ∧ ∀ C, RG P C N ops rest ⟨absE env, H.abs⟩ fun x1 s1 => x1 = x ∧ s1 = ⟨absE env', H'.abs⟩
  | [], env, H, x, env', H', h => by cases h; exact ⟨⟨HLe.refl _, Mono.refl _⟩, fun C => RG.nil ⟨rfl, rfl⟩⟩
  | o :: rest, env, H, x, env', H', h => by
    rw [evOps] at h
    split at h
    · cases h
    · rename_i hg
      have hf := (bif_some h).1; replace h := (bif_some h).2
      rw [setOK_eq] at h
      obtain ⟨h1, h2⟩ := evOps_snd hok rest _ H x env' H' h
      refine ⟨h1, fun C => rg_skip ((guardAt_eq hg).2 rfl) hf ?_⟩
      rw [← absE_set]; exact h2 C
    · rename_i hg
      have hf := (bif_some h).1; replace h := (bif_some h).2
      obtain ⟨r0, c, H1, h1, h2, _, h3⟩ := evO_snd hok h
      cases r0 with
      | ret d =>
        simp only [frc_eq, setOK_eq] at h3
        obtain ⟨h4, h5⟩ := evOps_snd hok rest _ H1 x env' H' h3
        refine ⟨⟨h2.1.trans h4.1, h2.2.trans h4.2⟩, fun C => rg_run _ ((guardAt_eq hg).1 rfl) hf (h1 C) (fun d' H2 hR => ?_) fun d' H2 hR => ?_⟩
        · obtain ⟨e1, rfl⟩ := hR
          cases e1
          rw [← absE_set]; exact h5 C
        · cases hR.1
      | pan d =>
        simp only [Option.some.injEq, Prod.mk.injEq] at h3
        obtain ⟨rfl, rfl, rfl⟩ := h3
        refine ⟨h2, fun C => rg_run _ ((guardAt_eq hg).1 rfl) hf (h1 C) (fun d' H2 hR => ?_) fun d' H2 hR => ?_⟩
        · cases hR.1
        · obtain ⟨e1, rfl⟩ := hR
          cases e1
          exact ⟨rfl, rfl⟩
theorem evDr_snd (hok : CallOk P call) (hs : List EH) (b : Bool) (H0 : EH) : ∀ (rest : List Oper) (i : Nat) (env : Tr D) (H : EH) (l : List Ent) (env' : Tr D) (H' : EH), (∀ k, rest[k]? = ops[i + k]?) → evDr T call N ops rest env H = some (l, env', H') →
    ((b = true ∧ H = H0 ∧ hs = [H0] ∧ l.all (fun x => !x.c) = true) ∨ l.all (same1 T call N ops hs) = true) →
    (HLe H.abs H'.abs ∧ Mono H H') ∧ ∀ C, Plan P C N ops (fun h => ∃ H2 ∈ hs, h = H2.abs) i rest (absE env) H.abs (l.map fun x => (x.d, x.c, x.H.abs)) (absE env') H'.abs
  | [], i, env, H, l, env', H', _, h, _ => by cases h; exact ⟨⟨HLe.refl _, Mono.refl _⟩, fun C => .nil _ _ _⟩
  | o :: rest, i, env, H, l, env', H', ho, h, ha => by
    have ho0 : ops[i]? = some o := by simpa using (ho 0).symm
    have ho' : ∀ k, rest[k]? = ops[i + 1 + k]? := fun k => by have := ho (k + 1); simpa [Nat.add_assoc, Nat.add_comm 1 k] using this
    rw [evDr] at h
    split at h
    · cases h
    · rename_i hg
      have hf := (bif_some h).1; replace h := (bif_some h).2
      rw [setOK_eq] at h
      split at h
      · rename_i l' e h' hd
        cases h
        have ha' : (b = true ∧ H = H0 ∧ hs = [H0] ∧ l'.all (fun x => !x.c) = true) ∨ l'.all (same1 T call N ops hs) = true := by
          rcases ha with ⟨a1, a2, a3, a4⟩ | a
          · rw [List.all_cons, Bool.and_eq_true] at a4; exact .inl ⟨a1, a2, a3, a4.2⟩
          · rw [List.all_cons, Bool.and_eq_true] at a; exact .inr a.2
        obtain ⟨h1, h2⟩ := evDr_snd hok hs b H0 rest (i + 1) _ H l' env' H' ho' hd ha'
        refine ⟨h1, fun C => ?_⟩
        have := h2 C
        rw [absE_set] at this
        exact .pure (.v undef) hf (fun _ _ => stp_skip ho0 ((guardAt_eq hg).2 rfl)) this
      · cases h
    · rename_i hg
      have hf := (bif_some h).1; replace h := (bif_some h).2
      obtain ⟨r0, c, H1, h1, h2, h2', h3⟩ := evO_snd hok h
      cases r0 with
      | ret d =>
        simp only [frc_eq, setOK_eq] at h3
        split at h3
        · rename_i l' e h' hd
          cases h3
          have ha' : (b = true ∧ H1 = H0 ∧ hs = [H0] ∧ l'.all (fun x => !x.c) = true) ∨ l'.all (same1 T call N ops hs) = true := by
            rcases ha with ⟨a1, a2, a3, a4⟩ | a
            · rw [List.all_cons, Bool.and_eq_true] at a4
              have hc : c = false := by simpa using a4.1
              exact .inl ⟨a1, (h2' hc).1.trans a2, a3, a4.2⟩
            · rw [List.all_cons, Bool.and_eq_true] at a; exact .inr a.2
          obtain ⟨h4, h5⟩ := evDr_snd hok hs b H0 rest (i + 1) _ H1 l' env' H' ho' hd ha'
          refine ⟨⟨h2.1.trans h4.1, h2.2.trans h4.2⟩, fun C => ?_⟩
          have hpl := h5 C
          rw [absE_set] at hpl
          cases c with
          | true => exact .chg d H1.abs hf (stp_run ho0 ((guardAt_eq hg).1 rfl) ((h1 C).d h2.1)) hpl
          | false =>
            obtain ⟨e1, d0, ed, h1'⟩ := h2' rfl
            subst e1
            cases ed
            refine .pure d hf (fun Hh hH => ?_) hpl
            obtain ⟨H2, hm, rfl⟩ := hH
            rcases ha with ⟨_, a2, a3, _⟩ | a
            · subst a2 a3
              have e2 : H2 = H1 := by simpa using hm
              subst e2
              exact stp_run ho0 ((guardAt_eq hg).1 rfl) (h1' C)
            · rw [List.all_cons, Bool.and_eq_true] at a
              have h6 := a.1
              simp only [same1, Bool.false_or, hg] at h6
              have h7 := List.all_eq_true.1 h6 H2 hm
              split at h7
              · rename_i u hu
                obtain ⟨r1, c1, H3, _, _, k2, k3⟩ := evO_snd hok hu
                cases r1 with
                | pan d2 => cases k3
                | ret d2 =>
                  have k4 := (bif_some k3).1
                  simp only [Bool.and_eq_true, Bool.not_eq_true'] at k4
                  obtain ⟨_, d3, ed, k5⟩ := k2 k4.1
                  cases ed
                  have k6 := deq_eq 8 _ _ k4.2
                  subst k6
                  exact stp_run ho0 ((guardAt_eq hg).1 rfl) (k5 C)
              · cases h7
        · cases h3
      | pan d => cases h3
theorem evDrawn_snd (hok : CallOk P call) {env : Tr D} {H : EH} {x : DX} {env' : Tr D} {H' : EH} (h : evDrawn T call N ops env H = some (x, env', H')) (id : Nat) : (HLe H.abs H'.abs ∧ Mono H H') ∧ ∀ C, WC P C N (.region id ops true) ⟨absE env, H.abs⟩ fun x1 s1 => x1 = x ∧ s1 = ⟨absE env', H'.abs⟩ := by
  unfold evDrawn at h
  split at h
  · cases h
  · rename_i l e h0 hd
    have h1 := (bif_some h).1; replace h := (bif_some h).2
    rw [Bool.and_eq_true] at h1
    cases h
    have hops : ops.toList.toArray = ops := Array.toArray_toList
    have fin : ∀ hs : List EH, H ∈ hs → (∀ x ∈ l, x.c = true → x.H ∈ hs) → ((true = true ∧ H = H ∧ hs = [H] ∧ l.all (fun x => !x.c) = true) ∨ l.all (same1 T call N ops hs) = true) → (HLe H.abs H'.abs ∧ Mono H H') ∧ ∀ C, WC P C N (.region id ops true) ⟨absE env, H.abs⟩ fun x1 s1 => x1 = DX.normal ∧ s1 = ⟨absE env', H'.abs⟩ := by
      intro hs m1 m2 hh
      obtain ⟨h2, h3⟩ := evDr_snd hok hs true H ops.toList 0 env H l env' H' (fun k => by simp) hd hh
      refine ⟨h2, fun C => ?_⟩
      have := WC.drawn (P := P) (C := C) (N := N) (s := ⟨absE env, H.abs⟩) (Q := fun x1 s1 => x1 = DX.normal ∧ s1 = ⟨absE env', H'.abs⟩) (id := id) (ol := ops.toList) (fun h => ∃ H2 ∈ hs, h = H2.abs) _ _ _ T.mix (by rw [hops]; exact h3 C) (by rw [hops, List.map_map]; exact h1.1)
        (.inr ⟨⟨H, m1, rfl⟩, fun x hx hc => ?_⟩) ⟨rfl, rfl⟩
      · rwa [hops] at this
      · obtain ⟨y, hy, rfl⟩ := List.mem_map.1 hx
        exact ⟨y.H, m2 y hy hc, rfl⟩
    cases ha : l.all (fun x => !x.c) with
    | true => exact fin [H] (by simp) (fun x hx hc => by have := List.all_eq_true.1 ha x hx; rw [hc] at this; cases this) (.inl ⟨rfl, rfl, rfl, ha⟩)
    | false =>
      have h5 := h1.2
      rw [ha] at h5
      exact fin _ (by simp) (fun x hx hc => List.mem_cons_of_mem _ (List.mem_map.2 ⟨x, List.mem_filter.2 ⟨hx, hc⟩, rfl⟩)) (.inr h5)
end

/-! ### Code -/
noncomputable def evLoop (body : Tr D → EH → Res) (n : Nat) : Tr D → EH → Res :=
  Nat.rec (motive := fun _ => Tr D → EH → Res) (fun _ _ => none) (fun _ r env H => match body env H with
    | some (.normal, e, h) => goR r e h
    | x => x) n
noncomputable def evRes {P : Program} (T : Tab P) (env : Tr D) (H : EH) : List ResultVar → Option (List D)
  | [] => some []
  | .tmp t :: rs => (match evRes T env H rs with | some l => some (absE env t :: l) | none => none)
  | .cell a t :: rs => (match evLoad T env H t (.tmp a) some with
    | some d => (match absE env a with
      | .ptr _ _ _ => (match evRes T env H rs with | some l => some (d :: l) | none => none)
      | _ => none)
    | none => none)
def packR : List D → D
  | [d] => d
  | l => .tup l
/-- Does a datum name no block? -/
def pureB : Nat → D → Bool
  | 0, _ => false
  | n + 1, d => match d with
    | .v _ => true
    | .rd _ _ => true
    | .adr _ => true
    | .mp _ _ => true
    | .agg cs => cs.all (pureB n)
    | .tup cs => cs.all (pureB n)
    | .fn _ cs => cs.all (pureB n)
    | .iface _ d => pureB n d
    | _ => false
theorem pureB_ok : ∀ (n : Nat) (d : D), pureB n d = true → Pure' d
  | 0, _, h => by cases h
  | n + 1, d, h => by
    unfold pureB at h
    split at h
    · exact .v _
    · exact .rd _ _
    · exact .adr _
    · exact .mp _ _
    · exact .agg _ fun c hc => pureB_ok n c (List.all_eq_true.1 h c hc)
    · exact .tup _ fun c hc => pureB_ok n c (List.all_eq_true.1 h c hc)
    · exact .fn _ _ fun c hc => pureB_ok n c (List.all_eq_true.1 h c hc)
    · exact .iface _ _ (pureB_ok n _ h)
    · cases h
def backH (H H1 : EH) : EH := ⟨H1.n, H1.t, H.b, bif Nat.beq H1.w 0 then H.w else H.w + 1⟩
noncomputable def retF (H H1 : EH) (d : D) : Option (DOut × EH × Bool) := frc 4 d fun d => bif pureB 8 d && Nat.beq H1.w 0 then some (.ret d, H, false) else some (.ret d, backH H H1, true)
noncomputable def evCallF {P : Program} (T : Tab P) (ih : Nat → Code → Tr D → EH → Res) (f : FuncId) (ds : List D) (H : EH) : Option (DOut × EH × Bool) := match T.fnAt f with
  | none => none
  | some e => bif Nat.ble ds.length e.fn.ntmps && Nat.ble e.fn.results.toList.length 4 then setLK ds .nil 0 fun env => (match ih e.fn.ntmps e.body env ⟨H.n, H.t, H.n, 0⟩ with
    | some (.normal, e', H') => (match evRes T e' H' e.fn.results.toList with | some l => retF H H' (packR l) | none => none)
    | some (.ret, e', H') => (match evRes T e' H' e.fn.results.toList with | some l => retF H H' (packR l) | none => none)
    | some (.panic d, _, H') => some (.pan d, backH H H', true)
    | _ => none) else none
noncomputable def evS {P : Program} (T : Tab P) (n : Nat) (ih : Nat → Code → Tr D → EH → Res) (N : Nat) (c : Code) (env : Tr D) (H : EH) : Res := match c with
  | .skip => some (.normal, env, H)
  | .label _ => some (.normal, env, H)
  | .ret => some (.ret, env, H)
  | .exit i => some (.exit i, env, H)
  | .seq a b => (match ih N a env H with | some (.normal, e, h) => goR (ih N b) e h | x => x)
  | .cond c a b => (match evE env c with | .v (.bool t) => goR (ih N (bif t then a else b)) env H | _ => none)
  | .block id b => (match ih N b env H with | some (.exit i, e, h) => bif Nat.beq i id then some (.normal, e, h) else some (.exit i, e, h) | x => x)
  | .loop b => evLoop (ih N b) n env H
  | .scope b => (match ih N b env H with | some (.goto _, _, _) => none | x => x)
  | .region _ ops draw => bif draw then evDrawn T (evCallF T ih) N ops env H else evOps T (evCallF T ih) N ops ops.toList env H
  | _ => none
noncomputable def evC {P : Program} (T : Tab P) (n : Nat) : Nat → Code → Tr D → EH → Res :=
  Nat.rec (motive := fun _ => Nat → Code → Tr D → EH → Res) (fun _ _ _ _ => none) (fun n ih N c env H => evS T n ih N c env H) n
section
variable {P : Program}
/-- How a function ends that keeps all its blocks. -/
def endE (P : Program) (fn : Func) (o : DOut) (H' : Heap) : DX → St → Prop
  | .normal, s | .ret, s => s.H = H' ∧ ∃ d, o = .ret d ∧ EndsM P fn (· = d) s.H s
  | .panic d, s => s.H = H' ∧ o = .pan d
  | _, _ => False
theorem FunM.ofE {f : FuncId} {fn : Func} {c : Code} {ds : List D} {H : Heap} {o : DOut} {H' : Heap} (hf : P.funcs[f]? = some fn) (hb : fn.body = some c) (hn : ds.length ≤ fn.ntmps)
    (h : ∀ C, WC P C fn.ntmps c ⟨env0 ds, H⟩ (endE P fn o H')) : FunM P f ds H fun x H'' => x = o ∧ H'' = H' := by
  intro K β w vs hw hl hv ho
  refine calls_fin hf hb rfl (hw.kB rfl) (hw.kB rfl) (h (given K β H w) K β _ w (enters hn hw hl hv ho)) fun e a' w' K' β' s' x hX hs' hdf hx hq => ?_
  have fin : (s'.H = H' ∧ ∃ d, o = .ret d ∧ EndsM P fn (· = d) s'.H s') → a'.defers = [] ∧ ∃ v, (results fn a'.tmps).run P w' = .ok v w' ∧ ∃ v' d K' β' H2, Ext (given K β H w) K β H K' β' H2 ∧ WS (given K β H w) K' β' H2 w' ∧ DR K' β' true v' d ∧ OkD H2 d ∧ ((Ending.returned v = .returned v' ∧ DOut.ret d = o ∧ H2 = H') ∨ (Ending.returned v = .panicked [{ v := v', recovered := false }] ∧ DOut.pan d = o ∧ H2 = H')) := by
    rintro ⟨e1, d0, e2, hE⟩
    obtain ⟨v, d, hr, hd, hz, hQ⟩ := hE _ _ K' β' a' w' hs'
    subst hQ
    exact ⟨hdf, v, hr, v, d, K', β', s'.H, hX, hs'.ws, hd, hz, .inl ⟨rfl, e2.symm, e1⟩⟩
  cases e <;> cases x <;> first
    | exact fin hq
    | exact hx.elim
    | exact hq.elim
    | (obtain ⟨e1, e2⟩ := hq
       obtain ⟨v, rfl, hd, hz⟩ := hx
       exact ⟨hdf, v, _, K', β', s'.H, hX, hs'.ws, hd, hz, .inr ⟨rfl, e2.symm, e1⟩⟩)
def ResAll (P : Program) (s : St) : List ResultVar → List D → Prop
  | [], [] => True
  | r :: rs, d :: ds => ResIs P s r d ∧ ResAll P s rs ds
  | _, _ => False
theorem evRes_snd {T : Tab P} {env : Tr D} {H : EH} : ∀ {rs : List ResultVar} {l : List D}, evRes T env H rs = some l → ResAll P ⟨absE env, H.abs⟩ rs l
  | [], l, h => by cases h; trivial
  | .tmp t :: rs, l, h => by
    rw [evRes] at h
    split at h
    · rename_i l' hl; cases h; exact ⟨.tmp t _ rfl, evRes_snd hl⟩
    · cases h
  | .cell a t :: rs, l, h => by
    rw [evRes] at h
    split at h
    · rename_i d hd
      split at h
      · rename_i id ver off ha
        split at h
        · rename_i l' hl
          cases h
          refine ⟨?_, evRes_snd hl⟩
          unfold evLoad at hd
          split at hd
          · cases hd
          · rename_i e he
            have et := Tab.tyAt_eq he
            subst et
            rw [show evE env (.tmp a) = .ptr id ver off from ha] at hd
            simp only at hd
            split at hd
            · cases hd
            · rename_i b hb
              have hv := Nat.eq_of_beq_eq_true (bif_some hd).1; replace hd := (bif_some hd).2
              obtain ⟨hlt, hB⟩ := EH.find_abs hb
              cases hf : flat e.td with
              | true =>
                rw [hf] at hd
                obtain ⟨h1, h2⟩ := bif_some (by simpa using hd)
                cases h2
                exact .cell ha e.hu hf hB hv (EB.abs_at (by simpa [Nat.blt_eq] using h1))
              | false =>
                rw [hf] at hd
                obtain ⟨h1, h2⟩ := bif_some (by simpa using hd)
                cases h2
                have h1 := Nat.le_of_ble_eq_true h1
                rw [← EB.abs_part h1]
                exact .agg ha e.hu hf e.size hB hv (by rw [EB.abs_len]; exact Nat.ble_eq_true_of_le h1)
        · cases h
      · cases h
    · cases h
theorem resAll_run {fn : Func} {s : St} {rs : List ResultVar} {l : List D} (hr : fn.results = rs.toArray) (h4 : rs.length ≤ 4) (h : ResAll P s rs l) : EndsM P fn (· = packR l) s.H s := by
  intro C N K β a w hs
  cases rs with
  | nil => cases l with
    | nil => obtain ⟨v, h1, h2, h3⟩ := res0 hr  hs; exact ⟨v, _, h1, h2, h3, rfl⟩
    | cons _ _ => exact h.elim
  | cons r1 rs => cases l with
    | nil => exact h.elim
    | cons d1 l =>
      cases rs with
      | nil => cases l with
        | nil => obtain ⟨v, h1, h2, h3⟩ := res1 hr h.1 hs; exact ⟨v, _, h1, h2, h3, rfl⟩
        | cons _ _ => exact h.2.elim
      | cons r2 rs => cases l with
        | nil => exact h.2.elim
        | cons d2 l =>
          cases rs with
          | nil => cases l with
            | nil => obtain ⟨v, h1, h2, h3⟩ := res2 hr h.1 h.2.1 hs; exact ⟨v, _, h1, h2, h3, rfl⟩
            | cons _ _ => exact h.2.2.elim
          | cons r3 rs => cases l with
            | nil => exact h.2.2.elim
            | cons d3 l =>
              cases rs with
              | nil => cases l with
                | nil => obtain ⟨v, h1, h2, h3⟩ := res3 hr h.1 h.2.1 h.2.2.1 hs; exact ⟨v, _, h1, h2, h3, rfl⟩
                | cons _ _ => exact h.2.2.2.elim
              | cons r4 rs => cases l with
                | nil => exact h.2.2.2.elim
                | cons d4 l =>
                  cases rs with
                  | nil => cases l with
                    | nil => obtain ⟨v, h1, h2, h3⟩ := res4 hr h.1 h.2.1 h.2.2.1 h.2.2.2.1 hs; exact ⟨v, _, h1, h2, h3, rfl⟩
                    | cons _ _ => exact h.2.2.2.2.elim
                  | cons _ _ => exact absurd h4 (by simp)
theorem resAll_ends {fn : Func} {s : St} {l : List D} (h4 : fn.results.toList.length ≤ 4) (h : ResAll P s fn.results.toList l) : EndsM P fn (· = packR l) s.H s := resAll_run Array.toArray_toList.symm h4 h
/-- What code does, told as it is. -/
def IhOk (P : Program) (ih : Nat → Code → Tr D → EH → Res) : Prop := ∀ N c env H x env' H', ih N c env H = some (x, env', H') → (HLe H.abs H'.abs ∧ Mono H H') ∧ ∀ C, WC P C N c ⟨absE env, H.abs⟩ fun x1 s1 => x1 = x ∧ s1 = ⟨absE env', H'.abs⟩
/-- A function that hands back what names no block, and has written none that was there: its own blocks are gone. -/
theorem FunM.ofK {f : FuncId} {fn : Func} {c : Code} {ds : List D} {H H1 : Heap} {d : D} (hf : P.funcs[f]? = some fn) (hb : fn.body = some c) (hn : ds.length ≤ fn.ntmps) (ht : H1.take H.length = H) (hp : Pure' d)
    (h : ∀ C, WC P C fn.ntmps c ⟨env0 ds, H⟩ (endE P fn (.ret d) H1)) : FunM P f ds H fun x H'' => x = .ret d ∧ H'' = H := by
  intro K β w vs hw hl hv ho
  refine calls_fin hf hb rfl (hw.kB rfl) (hw.kB rfl) (h (given K β H w) K β _ w (enters hn hw hl hv ho)) fun e a' w' K' β' s' x hX hs' hdf hx hq => ?_
  have fin : (s'.H = H1 ∧ ∃ d', DOut.ret d = .ret d' ∧ EndsM P fn (· = d') s'.H s') → a'.defers = [] ∧ ∃ v, (results fn a'.tmps).run P w' = .ok v w' ∧ ∃ v' d2 K' β' H2, Ext (given K β H w) K β H K' β' H2 ∧ WS (given K β H w) K' β' H2 w' ∧ DR K' β' true v' d2 ∧ OkD H2 d2 ∧ ((Ending.returned v = .returned v' ∧ DOut.ret d2 = .ret d ∧ H2 = H) ∨ (Ending.returned v = .panicked [{ v := v', recovered := false }] ∧ DOut.pan d2 = .ret d ∧ H2 = H)) := by
    rintro ⟨e1, d0, e2, hE⟩
    cases e2
    obtain ⟨v, d', hr, hd, hz, hQ⟩ := hE _ _ K' β' a' w' hs'
    subst hQ
    have hws := wsTake hs'.ws H.length (by rw [e1, ht]; exact hw.ok) (by rw [e1, ht]; exact HLe.refl _)
    rw [e1, ht] at hws
    exact ⟨hdf, v, hr, v, d', K', β', H, ⟨hX.kx, hX.ag, HLe.refl _⟩, hws, hd, hp.ok _, .inl ⟨rfl, rfl, rfl⟩⟩
  cases e <;> cases x <;> first
    | exact fin hq
    | exact hx.elim
    | exact hq.elim
    | exact (by cases hq.2)
theorem back_mono {H H1 : EH} (h : Mono ⟨H.n, H.t, H.n, 0⟩ H1) : Mono H (backH H H1) := by
  refine ⟨rfl, h.n, ?_, fun e id h1 h2 => ?_⟩
  · show H.w ≤ (bif Nat.beq H1.w 0 then H.w else H.w + 1)
    cases Nat.beq H1.w 0 <;> simp
  · have e' : (bif Nat.beq H1.w 0 then H.w else H.w + 1) = H.w := e
    cases hb : Nat.beq H1.w 0 with
    | false => rw [hb] at e'; simp at e'
    | true => exact h.same (Nat.eq_of_beq_eq_true hb) id h2 h2
theorem retF_snd {H H1 : EH} {d : D} {o : DOut} {H' : EH} {c : Bool} (h : retF H H1 d = some (o, H', c)) : o = .ret d ∧ ((c = false ∧ H' = H ∧ Pure' d ∧ H1.w = 0) ∨ (c = true ∧ H' = backH H H1)) := by
  unfold retF at h
  rw [frc_eq] at h
  cases hb : (pureB 8 d && Nat.beq H1.w 0) with
  | true =>
    rw [hb] at h
    simp only [cond_true, Option.some.injEq, Prod.mk.injEq] at h
    obtain ⟨rfl, rfl, rfl⟩ := h
    rw [Bool.and_eq_true] at hb
    exact ⟨rfl, .inl ⟨rfl, rfl, pureB_ok 8 _ hb.1, Nat.eq_of_beq_eq_true hb.2⟩⟩
  | false =>
    rw [hb] at h
    simp only [cond_false, Option.some.injEq, Prod.mk.injEq] at h
    obtain ⟨rfl, rfl, rfl⟩ := h
    exact ⟨rfl, .inr ⟨rfl, rfl⟩⟩
theorem take_same {H H1 : EH} (h : Mono ⟨H.n, H.t, H.n, 0⟩ H1) (hw : H1.w = 0) : H1.abs.take H.abs.length = H.abs := by
  have hn : H.n ≤ H1.n := h.n
  apply List.ext_getElem?
  intro j
  rw [List.getElem?_take, EH.abs_len]
  by_cases hj : j < H.n
  · rw [if_pos hj, EH.abs_at (by omega), EH.abs_at hj, h.same hw j hj hj]
  · rw [if_neg hj, List.getElem?_eq_none (by rw [EH.abs_len]; omega)]
theorem evCallF_snd {T : Tab P} {ih : Nat → Code → Tr D → EH → Res} (hih : IhOk P ih) : CallOk P (evCallF T ih) := by
  intro g ds H o H' c h
  unfold evCallF at h
  split at h
  · cases h
  · rename_i e he
    have e1 := Tab.fnAt_eq he
    subst e1
    have h1 := (bif_some h).1; replace h := (bif_some h).2
    rw [Bool.and_eq_true] at h1
    rw [setLK_eq] at h
    refine ⟨e.hc, ?_⟩
    have fin : ∀ (x : DX) (e' : Tr D) (H1 : EH) (l : List D), (x = .normal ∨ x = .ret) → ih e.fn.ntmps e.body (setL .nil 0 ds) ⟨H.n, H.t, H.n, 0⟩ = some (x, e', H1) → evRes T e' H1 e.fn.results.toList = some l → retF H H1 (packR l) = some (o, H', c) →
        (HLe H.abs H'.abs ∧ Mono H H') ∧ (FunM P e.f ds H.abs fun x H'' => x = o ∧ H'' = H'.abs) ∧ (c = false → H' = H ∧ ∃ d, o = .ret d) := by
      intro x e' H1 l hx hr hl hF
      obtain ⟨h2, h3⟩ := hih _ _ _ _ _ _ _ hr
      rw [absE_ofL] at h3
      have hend : ∀ C, WC P C e.fn.ntmps e.body ⟨env0 ds, H.abs⟩ (endE P e.fn (.ret (packR l)) H1.abs) := fun C => (h3 C).mono fun x1 s1 ⟨k1, k2⟩ => by
        subst k1 k2
        rcases hx with rfl | rfl
        · exact ⟨rfl, _, rfl, resAll_ends (Nat.le_of_ble_eq_true h1.2) (evRes_snd hl)⟩
        · exact ⟨rfl, _, rfl, resAll_ends (Nat.le_of_ble_eq_true h1.2) (evRes_snd hl)⟩
      obtain ⟨rfl, hh⟩ := retF_snd hF
      rcases hh with ⟨rfl, rfl, hp, hw⟩ | ⟨rfl, rfl⟩
      · exact ⟨⟨HLe.refl _, Mono.refl _⟩, FunM.ofK e.hf e.hb (Nat.le_of_ble_eq_true h1.1) (take_same h2.2 hw) hp hend, fun _ => ⟨rfl, _, rfl⟩⟩
      · exact ⟨⟨h2.1, back_mono h2.2⟩, FunM.ofE e.hf e.hb (Nat.le_of_ble_eq_true h1.1) hend, fun h => by cases h⟩
    split at h
    · rename_i e' H1 hr
      split at h
      · rename_i l hl; exact fin _ e' H1 l (.inl rfl) hr hl h
      · cases h
    · rename_i e' H1 hr
      split at h
      · rename_i l hl; exact fin _ e' H1 l (.inr rfl) hr hl h
      · cases h
    · rename_i d e' H1 hr
      cases h
      obtain ⟨h2, h3⟩ := hih _ _ _ _ _ _ _ hr
      rw [absE_ofL] at h3
      refine ⟨⟨h2.1, back_mono h2.2⟩, FunM.ofE e.hf e.hb (Nat.le_of_ble_eq_true h1.1) fun C => (h3 C).mono fun x1 s1 ⟨k1, k2⟩ => ?_, fun h => by cases h⟩
      subst k1 k2
      exact ⟨rfl, rfl⟩
    · cases h
theorem evLoop_snd {ih : Nat → Code → Tr D → EH → Res} (hih : IhOk P ih) {N : Nat} {c : Code} : ∀ (n : Nat) (env : Tr D) (H : EH) (x : DX) (env' : Tr D) (H' : EH), evLoop (ih N c) n env H = some (x, env', H') →
    (HLe H.abs H'.abs ∧ Mono H H') ∧ ∀ C K β a w, SR C N K β ⟨absE env, H.abs⟩ a w → Code.roundsIn (FW C.rd) 0 P c (AftX C N K β H.abs fun x1 s1 => x1 = x ∧ s1 = ⟨absE env', H'.abs⟩) n a w
  | 0, _, _, _, _, _, h => by cases h
  | n + 1, env, H, x, env', H', h => by
    replace h : (match ih N c env H with | some (.normal, e, h) => goR (evLoop (ih N c) n) e h | x => x) = some (x, env', H') := h
    split at h
    · rename_i e1 H1 hr
      obtain ⟨h2, h3⟩ := hih _ _ _ _ _ _ _ hr
      obtain ⟨h4, h5⟩ := evLoop_snd hih n e1 H1 x env' H' h
      refine ⟨⟨h2.1.trans h4.1, h2.2.trans h4.2⟩, fun C K β a w hs => ?_⟩
      rw [roundsIn_succ]
      refine wpIn_mono (h3 C K β a w hs) fun ex a' w' hA => ?_
      obtain ⟨K', β', s', x', k1, k2, k3, k4, k5⟩ := hA
      subst k4 k5
      cases ex <;> first | exact k3.elim | skip
      have h6 := h5 C K' β' a' w' k2
      have mono : ∀ m a w, Code.roundsIn (FW C.rd) 0 P c (AftX C N K' β' H1.abs fun x1 s1 => x1 = x ∧ s1 = ⟨absE env', H'.abs⟩) m a w → Code.roundsIn (FW C.rd) 0 P c (AftX C N K β H.abs fun x1 s1 => x1 = x ∧ s1 = ⟨absE env', H'.abs⟩) m a w := by
        intro m
        induction m with
        | zero => intro a w h; exact h
        | succ m ihm =>
          intro a w h
          rw [roundsIn_succ] at h ⊢
          refine wpIn_mono h fun ex a w hh => ?_
          cases ex <;> first
            | exact ihm a w hh
            | exact hh.mono k1 fun _ _ h => h
      exact mono n a' w' h6
    · rename_i hne
      obtain ⟨h2, h3⟩ := hih _ _ _ _ _ _ _ h
      refine ⟨h2, fun C K β a w hs => ?_⟩
      rw [roundsIn_succ]
      refine wpIn_mono (h3 C K β a w hs) fun ex a' w' hA => ?_
      obtain ⟨K', β', s', x', k1, k2, k3, k4, k5⟩ := hA
      subst k4 k5
      cases ex <;> first
        | exact ⟨K', β', _, _, k1, k2, k3, rfl, rfl⟩
        | (cases x' <;> first | exact k3.elim | exact (hne _ _ h).elim)
theorem evC_snd (T : Tab P) : ∀ n, IhOk P (evC T n)
  | 0 => fun N c env H x env' H' h => by cases h
  | n + 1 => fun N c env H x env' H' h => by
    have ih := evC_snd T n
    have hcall := evCallF_snd (T := T) ih
    replace h : evS T n (evC T n) N c env H = some (x, env', H') := h
    unfold evS at h
    cases c <;> simp only at h
    case skip => cases h; exact ⟨⟨HLe.refl _, Mono.refl _⟩, fun C => .skip ⟨rfl, rfl⟩⟩
    case label => cases h; exact ⟨⟨HLe.refl _, Mono.refl _⟩, fun C => .label ⟨rfl, rfl⟩⟩
    case ret => cases h; exact ⟨⟨HLe.refl _, Mono.refl _⟩, fun C => .ret ⟨rfl, rfl⟩⟩
    case exit => cases h; exact ⟨⟨HLe.refl _, Mono.refl _⟩, fun C => .exit ⟨rfl, rfl⟩⟩
    case seq a b =>
      split at h
      · rename_i e1 H1 hr
        obtain ⟨h2, h3⟩ := ih _ _ _ _ _ _ _ hr
        obtain ⟨h4, h5⟩ := ih _ _ _ _ _ _ _ h
        refine ⟨⟨h2.1.trans h4.1, h2.2.trans h4.2⟩, fun C => WC.seq fun F hF => (h3 C).mono fun x1 s1 ⟨k1, k2⟩ => ?_⟩
        subst k1 k2
        exact hF _ (h5 C)
      · rename_i hne
        obtain ⟨h2, h3⟩ := ih _ _ _ _ _ _ _ h
        refine ⟨h2, fun C => WC.seq fun F hF => (h3 C).mono fun x1 s1 ⟨k1, k2⟩ => ?_⟩
        subst k1 k2
        cases x1 <;> first
          | exact ⟨rfl, rfl⟩
          | exact (hne _ _ h).elim
    case cond c a b =>
      split at h
      · rename_i t ht
        obtain ⟨h2, h3⟩ := ih _ _ _ _ _ _ _ h
        refine ⟨h2, fun C => WC.cond t ht (fun e => ?_) fun e => ?_⟩
        · subst e; exact h3 C
        · subst e; exact h3 C
      · cases h
    case block id b =>
      split at h
      · rename_i i e1 H1 hr
        obtain ⟨h2, h3⟩ := ih _ _ _ _ _ _ _ hr
        cases hb : Nat.beq i id with
        | true =>
          rw [hb] at h
          simp only [cond_true, Option.some.injEq, Prod.mk.injEq] at h
          obtain ⟨rfl, rfl, rfl⟩ := h
          refine ⟨h2, fun C => WC.block ((h3 C).mono fun x1 s1 ⟨k1, k2⟩ => ?_)⟩
          subst k1 k2
          simp only [blkQ, if_pos (Nat.eq_of_beq_eq_true hb)]
          exact ⟨trivial, trivial⟩
        | false =>
          rw [hb] at h
          simp only [cond_false, Option.some.injEq, Prod.mk.injEq] at h
          obtain ⟨rfl, rfl, rfl⟩ := h
          refine ⟨h2, fun C => WC.block ((h3 C).mono fun x1 s1 ⟨k1, k2⟩ => ?_)⟩
          subst k1 k2
          have : ¬ (i = id) := fun e => by rw [e, Nat.beq_refl] at hb; cases hb
          simp only [blkQ, if_neg this]
          exact ⟨trivial, trivial⟩
      · rename_i hne
        obtain ⟨h2, h3⟩ := ih _ _ _ _ _ _ _ h
        refine ⟨h2, fun C => WC.block ((h3 C).mono fun x1 s1 ⟨k1, k2⟩ => ?_)⟩
        subst k1 k2
        cases x1 <;> first
          | exact ⟨rfl, rfl⟩
          | exact (hne _ _ _ h).elim
    case loop b =>
      obtain ⟨h2, h3⟩ := evLoop_snd ih n env H x env' H' h
      exact ⟨h2, fun C K β a w hs => wpIn_loop_rounds n (h3 C K β a w hs)⟩
    case scope b =>
      split at h
      · cases h
      · rename_i hne
        obtain ⟨h2, h3⟩ := ih _ _ _ _ _ _ _ h
        refine ⟨h2, fun C => WC.scope ((h3 C).mono fun x1 s1 ⟨k1, k2⟩ => ?_)⟩
        subst k1 k2
        cases x1 <;> first
          | exact ⟨rfl, rfl⟩
          | exact (hne _ _ _ h).elim
    case region id ops draw =>
      cases draw with
      | true => exact evDrawn_snd hcall h id
      | false =>
        obtain ⟨h2, h3⟩ := evOps_snd hcall ops.toList env H x env' H' h
        refine ⟨h2, fun C => ?_⟩
        have hops : ops.toList.toArray = ops := Array.toArray_toList
        have := WC.region (P := P) (C := C) (N := N) (id := id) (l := ops.toList) (s := ⟨absE env, H.abs⟩) (Q := fun x1 s1 => x1 = x ∧ s1 = ⟨absE env', H'.abs⟩) (by rw [hops]; exact h3 C)
        rwa [hops] at this
    all_goals cases h
end

/-- A function called with what is exact: what it hands back is a truth. -/
noncomputable def evTrue {P : Program} (T : Tab P) (n : Nat) (f : FuncId) (ds : List D) : Bool := match evCallF T (evC T n) f ds ⟨0, .nil, 0, 0⟩ with
  | some (.ret (.v (.bool true)), _, _) => true
  | _ => false
theorem Fun.ofEval {P : Program} (T : Tab P) (n : Nat) (f : FuncId) (ds : List D) (h : evTrue T n f ds = true) : Fun P f ds (· = .v (.bool true)) := by
  unfold evTrue at h
  split at h
  · rename_i H' c hr
    obtain ⟨_, _, h3, _⟩ := evCallF_snd (evC_snd T n) f ds ⟨0, .nil, 0, 0⟩ _ _ _ hr
    exact FunM.fun (h3.mono fun o H'' ⟨k1, _⟩ => ⟨.v (.bool true), .v (.bool true), k1, .v _, rfl⟩)
  · cases h
end Go.DL
