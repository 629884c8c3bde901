/-
  A logic of data for the walks: regions that draw their order, in which operations look at what later ones change: a third kind of step. Plain lemmas over any program; no condition.
-/
import Derived.Test.YtpacdeiaimfiaaaDlX
set_option linter.unusedSimpArgs false
set_option linter.unusedVariables false
namespace Go.DL
open Go.RowKit

/-- A look stands behind all changes ahead of it, and ahead of all behind it. -/
def lookOK (ops : Array Oper) (cs ks : List Bool) : Bool :=
  let b := Go.CheckFast.beforeF ops
  (List.range ops.size).all fun i => !(ks.getD i false) || (List.range ops.size).all fun j => !(cs.getD j false) || Nat.beq j i || (if j < i then (b.getD i 0).testBit j else (b.getD j 0).testBit i)
theorem lookOK_pair {ops : Array Oper} {cs ks : List Bool} (h : lookOK ops cs ks = true) {i j : Nat} (hi : i < ops.size) (hj : j < ops.size) (hk : ks.getD i false = true) (hc : cs.getD j false = true) : (j < i → Bf ops j i) ∧ (i < j → Bf ops i j) := by
  unfold lookOK at h
  have h1 := List.all_eq_true.1 h i (by simpa using hi)
  rw [hk, Bool.not_true, Bool.false_or] at h1
  have h2 := List.all_eq_true.1 h1 j (by simpa using hj)
  rw [hc, Bool.not_true, Bool.false_or] at h2
  refine ⟨fun hlt => before_sound ops i j ?_, fun hlt => before_sound ops j i ?_⟩
  · have hb : Nat.beq j i = false := by
      cases e : Nat.beq j i with
      | false => rfl
      | true => have := Nat.eq_of_beq_eq_true e; omega
    rw [hb, Bool.false_or, if_pos hlt] at h2; exact h2
  · have hb : Nat.beq j i = false := by
      cases e : Nat.beq j i with
      | false => rfl
      | true => have := Nat.eq_of_beq_eq_true e; omega
    rw [hb, Bool.false_or, if_neg (by omega)] at h2; exact h2
/-- A region's steps, in the text's order; 'ks': which ones look at what others change. -/
inductive PlanL (P : Program) (C : Ctx) (N : Nat) (ops : Array Oper) : Nat → List Oper → (Nat → D) → Heap → List (D × Bool × Heap) → List Bool → (Nat → D) → Heap → Prop
  | nil (i : Nat) (env H) : PlanL P C N ops i [] env H [] [] env H
  | pure {i : Nat} {o : Oper} {rest : List Oper} {env H l ks env' H'} (d : D) (hf : fits N o = true) (h : ∀ H, Stp P C N ops i env H d H) (r : PlanL P C N ops (i + 1) rest (updO env o.dst d) H l ks env' H') : PlanL P C N ops i (o :: rest) env H ((d, false, H) :: l) (false :: ks) env' H'
  | look {i : Nat} {o : Oper} {rest : List Oper} {env H l ks env' H'} (d : D) (hf : fits N o = true) (h : Stp P C N ops i env H d H) (r : PlanL P C N ops (i + 1) rest (updO env o.dst d) H l ks env' H') : PlanL P C N ops i (o :: rest) env H ((d, false, H) :: l) (true :: ks) env' H'
  | chg {i : Nat} {o : Oper} {rest : List Oper} {env H l ks env' H'} (d : D) (H1 : Heap) (hf : fits N o = true) (h : Stp P C N ops i env H d H1) (r : PlanL P C N ops (i + 1) rest (updO env o.dst d) H1 l ks env' H') : PlanL P C N ops i (o :: rest) env H ((d, true, H1) :: l) (false :: ks) env' H'
theorem PlanL.length {P : Program} {C : Ctx} {N : Nat} {ops : Array Oper} {i : Nat} {rest : List Oper} {env H l ks env' H'} (h : PlanL P C N ops i rest env H l ks env' H') : l.length = rest.length ∧ ks.length = rest.length := by
  induction h with
  | nil => exact ⟨rfl, rfl⟩
  | pure _ _ _ _ ih => simp [ih]
  | look _ _ _ _ ih => simp [ih]
  | chg _ _ _ _ _ ih => simp [ih]
theorem PlanL.at {P : Program} {C : Ctx} {N : Nat} {ops : Array Oper} {env0 : Nat → D} {H0 : Heap} {l0 : List (D × Bool × Heap)} {ks0 : List Bool} {i : Nat} {rest : List Oper} {env H l ks env' H'} (h : PlanL P C N ops i rest env H l ks env' H')
    (ho : ∀ k, rest[k]? = ops[i + k]?) (hl : ∀ k, l[k]? = l0[i + k]?) (hks : ∀ k, ks[k]? = ks0[i + k]?) (he : env = EL ops l0 (fun _ => true) env0 i) (hh : H = HL l0 (fun _ => true) H0 i) :
    (∀ (k : Nat) s, i ≤ k → l0[k]? = some s → fits N (ops.getD k default) = true ∧ (s.2.1 = false → ks0.getD k false = false → ∀ H, Stp P C N ops k (EL ops l0 (fun _ => true) env0 k) H s.1 H) ∧
      (s.2.1 = false → ks0.getD k false = true → Stp P C N ops k (EL ops l0 (fun _ => true) env0 k) (HL l0 (fun _ => true) H0 k) s.1 (HL l0 (fun _ => true) H0 k)) ∧
      (s.2.1 = true → Stp P C N ops k (EL ops l0 (fun _ => true) env0 k) (HL l0 (fun _ => true) H0 k) s.1 s.2.2)) ∧ env' = EL ops l0 (fun _ => true) env0 (i + rest.length) ∧ H' = HL l0 (fun _ => true) H0 (i + rest.length) := by
  induction h with
  | nil i env H =>
    refine ⟨fun k s hk hs => ?_, by simpa using he, by simpa using hh⟩
    have := hl (k - i)
    rw [show i + (k - i) = k by omega, hs] at this
    simp at this
  | @pure i o rest env H l ks env' H' d hf h r ih =>
    have ho0 : ops[i]? = some o := by simpa using (ho 0).symm
    have hl0 : l0[i]? = some (d, false, H) := by simpa using (hl 0).symm
    have hk0 : ks0[i]? = some false := by simpa using (hks 0).symm
    have hk1 : ks0.getD i false = false := by rw [List.getD_eq_getElem?_getD, hk0]; rfl
    have ih' := ih (fun k => by have := ho (k + 1); simpa [Nat.add_assoc, Nat.add_comm 1 k] using this) (fun k => by have := hl (k + 1); simpa [Nat.add_assoc, Nat.add_comm 1 k] using this) (fun k => by have := hks (k + 1); simpa [Nat.add_assoc, Nat.add_comm 1 k] using this)
      (by subst he; show _ = EL _ _ _ _ (i + 1); rw [EL]; simp [ho0, hl0]) (by subst hh; show _ = HL _ _ _ (i + 1); rw [HL]; simp [hl0])
    refine ⟨fun k s hk hs => ?_, by rw [ih'.2.1]; congr 1; simp; omega, by rw [ih'.2.2]; congr 1; simp; omega⟩
    by_cases e : k = i
    · subst e
      rw [hl0] at hs; cases hs
      refine ⟨by simp [Array.getD_eq_getD_getElem?, ho0]; exact hf, fun _ _ H' => he ▸ h H', fun _ h2 => (by rw [hk1] at h2; cases h2), fun hx => by cases hx⟩
    · exact ih'.1 k s (by omega) hs
  | @look i o rest env H l ks env' H' d hf h r ih =>
    have ho0 : ops[i]? = some o := by simpa using (ho 0).symm
    have hl0 : l0[i]? = some (d, false, H) := by simpa using (hl 0).symm
    have hk0 : ks0[i]? = some true := by simpa using (hks 0).symm
    have hk1 : ks0.getD i false = true := by rw [List.getD_eq_getElem?_getD, hk0]; rfl
    have ih' := ih (fun k => by have := ho (k + 1); simpa [Nat.add_assoc, Nat.add_comm 1 k] using this) (fun k => by have := hl (k + 1); simpa [Nat.add_assoc, Nat.add_comm 1 k] using this) (fun k => by have := hks (k + 1); simpa [Nat.add_assoc, Nat.add_comm 1 k] using this)
      (by subst he; show _ = EL _ _ _ _ (i + 1); rw [EL]; simp [ho0, hl0]) (by subst hh; show _ = HL _ _ _ (i + 1); rw [HL]; simp [hl0])
    refine ⟨fun k s hk hs => ?_, by rw [ih'.2.1]; congr 1; simp; omega, by rw [ih'.2.2]; congr 1; simp; omega⟩
    by_cases e : k = i
    · subst e
      rw [hl0] at hs; cases hs
      refine ⟨by simp [Array.getD_eq_getD_getElem?, ho0]; exact hf, fun _ h2 => (by rw [hk1] at h2; cases h2), fun _ _ => by subst he hh; exact h, fun hx => by cases hx⟩
    · exact ih'.1 k s (by omega) hs
  | @chg i o rest env H l ks env' H' d H1 hf h r ih =>
    have ho0 : ops[i]? = some o := by simpa using (ho 0).symm
    have hl0 : l0[i]? = some (d, true, H1) := by simpa using (hl 0).symm
    have hk0 : ks0[i]? = some false := by simpa using (hks 0).symm
    have hk1 : ks0.getD i false = false := by rw [List.getD_eq_getElem?_getD, hk0]; rfl
    have ih' := ih (fun k => by have := ho (k + 1); simpa [Nat.add_assoc, Nat.add_comm 1 k] using this) (fun k => by have := hl (k + 1); simpa [Nat.add_assoc, Nat.add_comm 1 k] using this) (fun k => by have := hks (k + 1); simpa [Nat.add_assoc, Nat.add_comm 1 k] using this)
      (by subst he; show _ = EL _ _ _ _ (i + 1); rw [EL]; simp [ho0, hl0]) (by show _ = HL _ _ _ (i + 1); rw [HL]; simp [hl0])
    refine ⟨fun k s hk hs => ?_, by rw [ih'.2.1]; congr 1; simp; omega, by rw [ih'.2.2]; congr 1; simp; omega⟩
    by_cases e : k = i
    · subst e
      rw [hl0] at hs; cases hs
      refine ⟨by simp [Array.getD_eq_getD_getElem?, ho0]; exact hf, fun hx => (by cases hx), fun hx => (by cases hx), fun _ => by subst he hh; exact h⟩
    · exact ih'.1 k s (by omega) hs
/-- A region that draws its order: its plan, in the text's order. -/
theorem WC.drawnL {P : Program} {C : Ctx} {N : Nat} {s : St} {Q : DX → St → Prop} {id : Nat} {ol : List Oper} (l : List (D × Bool × Heap)) (ks : List Bool) (env' : Nat → D) (H' : Heap) (hm : P.follows .mixedOrders = true)
    (hp : PlanL P C N ol.toArray 0 ol s.env s.H l ks env' H') (hok : drawOK ol.toArray (l.map fun s => s.2.1) = true) (hlk : lookOK ol.toArray (l.map fun s => s.2.1) ks = true) (hq : Q .normal ⟨env', H'⟩) : WC P C N (.region id ol.toArray true) s Q := by
  intro K β a w hs
  obtain ⟨hst, he', hh'⟩ := hp.at (env0 := s.env) (H0 := s.H) (l0 := l) (ks0 := ks) (by simp) (by simp) (by simp) rfl rfl
  have hlen : l.length = ol.length := hp.length.1
  refine wpIn_region_any hm ?_
  let n := ol.length
  let Lof : Array Bool → Nat → Bool := fun listed i => listed.getD i true
  have key : ∀ (fuel : Nat) (listed : Array Bool) (K1 : Mem) (β1 : Nat → Nat → BT) (a : Act) (w : World), listed.size = ol.length → UL ol.length (fun i => listed.getD i true) ≤ fuel → Closed ol.toArray (fun i => listed.getD i true) → Ext C K β s.H K1 β1 (HL l (fun i => listed.getD i true) s.H ol.length) →
      WS C K1 β1 (HL l (fun i => listed.getD i true) s.H ol.length) w → a.tmps.size = N → Marks C.B K1 a.defers →
      (∀ t, DR K1 β1 true (a.tmps.getD t undef) (EL ol.toArray l (fun i => listed.getD i true) s.env ol.length t)) → (∀ t, OkD (HL l (fun i => listed.getD i true) s.H ol.length) (EL ol.toArray l (fun i => listed.getD i true) s.env ol.length t)) →
      wpAnyIn (FW C.rd) 0 P .any ol.toArray (AftX C N K β s.H Q) fuel listed a w := by
    intro fuel
    induction fuel with
    | zero =>
      intro listed K1 β1 a w hsz hU hcl hK hw hN hdf hrd hokd
      have hall : ∀ i, i < ol.length → listed.getD i true = true := fun i hi => UL_zero (L := fun i => listed.getD i true) (m := ol.length) (by omega) i hi
      refine ⟨?_, ?_⟩
      · rw [List.eq_nil_iff_forall_not_mem]
        intro i hi
        obtain ⟨h0, o, ho, _⟩ := mem_ready.1 hi
        have := hall i (by have := (Array.getElem?_eq_some_iff.1 ho).1; simpa using this)
        rw [this] at h0; cases h0
      · exact drawn_end hK hw hN hdf hrd hokd hall he' hh' hq
    | succ fuel ih =>
      intro listed K1 β1 a w hsz hU hcl hK hw hN hdf hrd hokd
      refine ⟨fun hnil => ?_, fun i hi => ?_⟩
      · have hall : ∀ i, i < ol.length → listed.getD i true = true := by
          intro i
          induction i using Nat.strongRecOn with
          | _ i ihi =>
            intro hi
            cases hL : listed.getD i true with
            | true => rfl
            | false =>
              exfalso
              have : i ∈ Region.ready .any ol.toArray listed := mem_ready.2 ⟨hL, ol[i], by simp [hi], fun e he hb => by
                have hlt := drawOK_edge hok (i := i) (o := ol[i]) (by simp [hi]) he hb
                have := ihi e.on hlt (by omega)
                rwa [getD_bool (by omega)] at this⟩
              rw [hnil] at this; cases this
        exact drawn_end hK hw hN hdf hrd hokd hall he' hh' hq
      · obtain ⟨hLi, o, ho, hed⟩ := mem_ready.1 hi
        have hin : i < ol.length := by have := (Array.getElem?_eq_some_iff.1 ho).1; simpa using this
        have hol : ol.toArray.getD i default = o := by rw [Array.getD_eq_getD_getElem?, ho]; rfl
        have hed' : ∀ e ∈ o.after, Region.binds .any e = true → listed.getD e.on true = true := fun e he hb => by
          have := hed e he hb
          have hlt := drawOK_edge hok ho he hb
          rw [getD_bool (by omega)]; exact this
        have hs' : l[i]? = some (l[i]'(by omega)) := List.getElem?_eq_getElem (by omega)
        obtain ⟨hfit, hP, hLk, hM⟩ := hst i _ (Nat.zero_le _) hs'
        rw [hol] at hfit
        generalize hsi : l[i]'(by omega) = si at *
        -- what it reads
        have hread : ∀ t ∈ o.looksAt ol.toArray, EL ol.toArray l (fun i => listed.getD i true) s.env ol.length t = EL ol.toArray l (fun _ => true) s.env i t := by
          intro t ht
          rw [EL_stop (i := i) ol.length (by omega) fun j oj h1 h2 hoj hd => ?_]
          · refine EL_congr i fun j oj h1 hoj hd => ?_
            exact hcl.ready ho hed' (drawOK_pair hok ho hoj h1 (.inl (clash_spec.2.1 hd ht)))
          · by_cases e : j = i
            · subst e; exact hLi
            · cases hLj : listed.getD j true with
              | false => rfl
              | true =>
                have this : listed.getD i true = true := hcl.bf (drawOK_pair hok hoj ho (by omega) (.inl (clash_spec.1 hd ht))) hLj
                rw [hLi] at this; cases this
        have hset : ∀ j, (listed.setIfInBounds i true).getD j true = if j = i then true else listed.getD j true := by
          intro j
          by_cases e : j = i
          · subst e; rw [if_pos rfl]; simp [hsz, hin]
          · rw [if_neg e, getD_set_ne true (Ne.symm e)]
        have hcl' : Closed ol.toArray (fun j => (listed.setIfInBounds i true).getD j true) := by
          intro j oj hj hoj e he hb
          simp only [hset] at hj ⊢
          by_cases ej : j = i
          · subst ej
            rw [ho] at hoj; cases hoj
            by_cases e2 : e.on = j
            · rw [if_pos e2]
            · rw [if_neg e2]; exact hed' e he hb
          · rw [if_neg ej] at hj
            by_cases e2 : e.on = i
            · rw [if_pos e2]
            · rw [if_neg e2]; exact hcl j oj hj hoj e he hb
        have hU' : UL ol.length (fun j => (listed.setIfInBounds i true).getD j true) ≤ fuel := by
          have := UL_lt (L := fun j => listed.getD j true) (L' := fun j => (listed.setIfInBounds i true).getD j true) ol.length i hin hLi (by simp only [hset, if_true]) (fun j hj => by simp only [hset]; split; rfl; exact hj)
          omega
        have hEL' : ∀ t, EL ol.toArray l (fun j => (listed.setIfInBounds i true).getD j true) s.env ol.length t = updO (EL ol.toArray l (fun j => listed.getD j true) s.env ol.length) o.dst si.1 t := by
          intro t
          by_cases hd : o.dst = some t
          · rw [EL_stop (i := i + 1) ol.length (by omega) fun j oj h1 h2 hoj hdj => ?_]
            · rw [EL]; simp only [hset, if_true, ho, hs', hd, updO, upd_at]
            · have hji : j ≠ i := by omega
              simp only [hset, if_neg hji]
              cases hLj : listed.getD j true with
              | false => rfl
              | true =>
                have this : listed.getD i true = true := hcl.bf (drawOK_pair hok hoj ho (by omega) (.inl (clash_spec.2.2 hdj hd))) hLj
                rw [hLi] at this; cases this
          · rw [EL_congr (L' := fun j => listed.getD j true) ol.length fun j oj h1 hoj hdj => ?_]
            · cases hdd : o.dst with
              | none => rfl
              | some d => exact (upd_ne _ _ (fun he => hd (by rw [hdd, he]))).symm
            · have hji : j ≠ i := by intro e; subst e; rw [ho] at hoj; cases hoj; exact hd hdj
              simp only [hset, if_neg hji]
        have fin : ∀ H1, H1 = HL l (fun j => (listed.setIfInBounds i true).getD j true) s.H ol.length → ∀ (Ho : Heap), Ho = HL l (fun j => listed.getD j true) s.H ol.length → HLe Ho H1 →
            ∀ K' β' v w', KX C K1 K' → Agr Ho β1 β' → WS C K' β' H1 w' → DR K' β' true v si.1 → OkD H1 si.1 →
            wpAnyIn (FW C.rd) 0 P .any ol.toArray (AftX C N K β s.H Q) fuel (listed.setIfInBounds i true) (a.put o.dst v) w' := by
          intro H1 e1 Ho e2 hle K' β' v w' hx hβ hw' hv ho'
          subst e2
          have hold : SR C N K1 β1 ⟨EL ol.toArray l (fun j => listed.getD j true) s.env ol.length, HL l (fun j => listed.getD j true) s.H ol.length⟩ a w := ⟨hw, hN, hdf, hrd, hokd⟩
          have hnew := hold.put hx.le hβ hw' hle hv ho' hfit
          subst e1
          refine ih (listed.setIfInBounds i true) K' β' _ w' (by simp [hsz]) hU' hcl' (hK.trans ⟨hx, hβ, hle⟩) hw' hnew.size hnew.defers (fun t => ?_) fun t => ?_
          · rw [hEL']; exact hnew.rd t
          · rw [hEL']; exact hnew.ok t
        have hcs : ∀ (j : Nat) sj, l[j]? = some sj → (l.map fun s => s.2.1).getD j false = sj.2.1 := by
          intro j sj hj
          rw [List.getD_eq_getElem?_getD, List.getElem?_map, hj]; rfl
        cases hc : si.2.1 with
        | false =>
          have hsame : HL l (fun j => (listed.setIfInBounds i true).getD j true) s.H ol.length = HL l (fun j => listed.getD j true) s.H ol.length := by
            refine HL_congr ol.length fun j sj h1 hj hn => ?_
            have hji : j ≠ i := by intro e; subst e; rw [hs'] at hj; cases hj; rw [hc] at hn; cases hn
            simp only [hset, if_neg hji]
          cases hkk : ks.getD i false with
          | false =>
            refine (hP hc hkk _).go o ho K1 β1 a w _ _ hw hN (fun t ht => ⟨by rw [← hread t ht]; exact hrd t, by rw [← hread t ht]; exact hokd t⟩) fun K' β' v w' hx hβ hw' hv ho' => ?_
            exact fin _ hsame.symm _ rfl (HLe.refl _) K' β' v w' hx hβ hw' hv ho'
          | true =>
            have hcur : HL l (fun j => listed.getD j true) s.H ol.length = HL l (fun _ => true) s.H i := by
              rw [HL_stop (i := i) ol.length (by omega) fun j sj h1 h2 hj hn => ?_]
              · refine HL_congr i fun j sj h1 hj hn => ?_
                exact hcl.ready ho hed' ((lookOK_pair hlk (i := i) (j := j) (by simpa using hin) (by simp; omega) hkk (by rw [hcs j sj hj]; exact hn)).1 h1)
              · by_cases e : j = i
                · subst e; exact hLi
                · cases hLj : listed.getD j true with
                  | false => rfl
                  | true =>
                    have this : listed.getD i true = true := hcl.bf ((lookOK_pair hlk (i := i) (j := j) (by simpa using hin) (by simpa using h2) hkk (by rw [hcs j sj hj]; exact hn)).2 (by omega)) hLj
                    rw [hLi] at this; cases this
            have hStp := hLk hc hkk
            rw [← hcur] at hStp
            refine hStp.go o ho K1 β1 a w _ _ hw hN (fun t ht => ⟨by rw [← hread t ht]; exact hrd t, by rw [← hread t ht]; exact hokd t⟩) fun K' β' v w' hx hβ hw' hv ho' => ?_
            exact fin _ hsame.symm _ rfl (HLe.refl _) K' β' v w' hx hβ hw' hv ho'
        | true =>
          have hcur : HL l (fun j => listed.getD j true) s.H ol.length = HL l (fun _ => true) s.H i := by
            rw [HL_stop (i := i) ol.length (by omega) fun j sj h1 h2 hj hn => ?_]
            · refine HL_congr i fun j sj h1 hj hn => ?_
              refine hcl.ready ho hed' (drawOK_pair hok ho (y := ol[j]) (by simp) h1 (.inr ⟨by rw [hcs i si hs']; exact hc, by rw [hcs j sj hj]; exact hn⟩))
            · by_cases e : j = i
              · subst e; exact hLi
              · cases hLj : listed.getD j true with
                | false => rfl
                | true =>
                  have this : listed.getD i true = true := hcl.bf (drawOK_pair hok (x := ol[j]) (i := j) (by simp) ho (by omega) (.inr ⟨by rw [hcs j sj hj]; exact hn, by rw [hcs i si hs']; exact hc⟩)) hLj
                  rw [hLi] at this; cases this
          have hnext : HL l (fun j => (listed.setIfInBounds i true).getD j true) s.H ol.length = si.2.2 := by
            rw [HL_stop (i := i + 1) ol.length (by omega) fun j sj h1 h2 hj hn => ?_]
            · rw [HL]; simp only [hset, if_true, hs', hc]
            · have hji : j ≠ i := by omega
              simp only [hset, if_neg hji]
              cases hLj : listed.getD j true with
              | false => rfl
              | true =>
                have this : listed.getD i true = true := hcl.bf (drawOK_pair hok (x := ol[j]) (i := j) (by simp) ho (by omega) (.inr ⟨by rw [hcs j sj hj]; exact hn, by rw [hcs i si hs']; exact hc⟩)) hLj
                rw [hLi] at this; cases this
          have hStp := hM hc
          rw [← hcur] at hStp
          refine hStp.go o ho K1 β1 a w _ _ hw hN (fun t ht => ⟨by rw [← hread t ht]; exact hrd t, by rw [← hread t ht]; exact hokd t⟩) fun K' β' v w' hx hβ hw' hv ho' => ?_
          exact fin _ hnext.symm _ rfl hStp.len K' β' v w' hx hβ hw' hv ho'
  have hrep : ∀ j, (Array.replicate ol.toArray.size false).getD j true = (if j < ol.length then false else true) := by
    intro j
    rw [Array.getD_eq_getD_getElem?, Array.getElem?_replicate]
    simp only [List.size_toArray]
    split <;> rfl
  have hE0 : ∀ t, EL ol.toArray l (fun j => (Array.replicate ol.toArray.size false).getD j true) s.env ol.length t = s.env t := by
    intro t
    rw [EL_stop (i := 0) ol.length (by omega) fun j o _ h2 _ _ => by simp only [hrep, if_pos h2]]
    rfl
  have hH0 : HL l (fun j => (Array.replicate ol.toArray.size false).getD j true) s.H ol.length = s.H := by
    rw [HL_stop (i := 0) ol.length (by omega) fun j o _ h2 _ _ => by simp only [hrep, if_pos h2]]
    rfl
  have hd : ({ w with drawn := w.drawn + 1 } : World) = w.drew := rfl
  rw [hd]
  refine key ol.toArray.size _ K β a w.drew (by simp) (by simpa using UL_le _ _) ?_ (by rw [hH0]; exact Ext.refl _ _ _ _) (by rw [hH0]; exact hs.ws.drew) hs.size hs.defers (fun t => by rw [hE0]; exact hs.rd t) (fun t => by rw [hE0, hH0]; exact hs.ok t)
  intro i o hi ho
  simp only [hrep] at hi
  have : i < ol.length := by have := (Array.getElem?_eq_some_iff.1 ho).1; simpa using this
  rw [if_pos this] at hi; cases hi
/-! ### Such regions, walked in the text's order -/
def PL (P : Program) (C : Ctx) (N : Nat) (ops : Array Oper) (i : Nat) (rest : List Oper) (env : Nat → D) (H : Heap) (F : List (D × Bool × Heap) → List Bool → (Nat → D) → Heap → Prop) : Prop := ∃ l ks env' H', PlanL P C N ops i rest env H l ks env' H' ∧ F l ks env' H'
section
variable {P : Program} {C : Ctx} {N : Nat} {ops : Array Oper} {i : Nat} {o : Oper} {rest : List Oper} {env : Nat → D} {H H1 : Heap} {F : List (D × Bool × Heap) → List Bool → (Nat → D) → Heap → Prop} {d : D}
theorem PL.nil (h : F [] [] env H) : PL P C N ops i [] env H F := ⟨[], [], env, H, .nil _ _ _, h⟩
theorem PL.op (d : D) (ho : ops[i]? = some o) (hg : o.guard = none) (hf : fits N o = true) (h : ∀ H, OpD P C o env H d H) (r : PL P C N ops (i + 1) rest (updO env o.dst d) H fun l ks e h => F ((d, false, H) :: l) (false :: ks) e h) : PL P C N ops i (o :: rest) env H F :=
  let ⟨_, _, e', H', p, f⟩ := r; ⟨_, _, e', H', .pure d hf (fun H => .op ho hg (h H)) p, f⟩
theorem PL.opg1 (d : D) (b : Bool) (j : Nat) (want : Bool) (t : Nat) (ho : ops[i]? = some o) (hg : o.guard = some (j, want)) (ht : (ops[j]?).bind (·.dst) = some t) (hlt : Nat.blt t N = true) (hb : env t = .v (.bool b)) (hf : fits N o = true)
    (h : (b == want) = true → ∀ H, OpD P C o env H d H) (r : PL P C N ops (i + 1) rest (updO env o.dst (gd (b == want) d)) H fun l ks e h => F ((gd (b == want) d, false, H) :: l) (false :: ks) e h) : PL P C N ops i (o :: rest) env H F :=
  let ⟨_, _, e', H', pl, f⟩ := r; ⟨_, _, e', H', .pure _ hf (fun H => .opg b j want t ho hg ht hlt hb fun e => h (by rw [e]; simp) H) pl, f⟩
theorem PL.opg2 (d : D) (G p : Bool) (j : Nat) (want : Bool) (t : Nat) (ho : ops[i]? = some o) (hg : o.guard = some (j, want)) (ht : (ops[j]?).bind (·.dst) = some t) (hlt : Nat.blt t N = true) (hb : env t = gd G (.v (.bool p))) (hf : fits N o = true)
    (h : (G && (p == want)) = true → ∀ H, OpD P C o env H d H) (r : PL P C N ops (i + 1) rest (updO env o.dst (gd (G && (p == want)) d)) H fun l ks e h => F ((gd (G && (p == want)) d, false, H) :: l) (false :: ks) e h) : PL P C N ops i (o :: rest) env H F :=
  let ⟨_, _, e', H', pl, f⟩ := r; ⟨_, _, e', H', .pure _ hf (fun H => .opg2 G p j want t ho hg ht hlt hb fun e => h e H) pl, f⟩
theorem PL.opl (d : D) (ho : ops[i]? = some o) (hg : o.guard = none) (hf : fits N o = true) (h : OpD P C o env H d H) (r : PL P C N ops (i + 1) rest (updO env o.dst d) H fun l ks e h => F ((d, false, H) :: l) (true :: ks) e h) : PL P C N ops i (o :: rest) env H F :=
  let ⟨_, _, e', H', p, f⟩ := r; ⟨_, _, e', H', .look d hf (.op ho hg h) p, f⟩
theorem PL.opl1 (d : D) (b : Bool) (j : Nat) (want : Bool) (t : Nat) (ho : ops[i]? = some o) (hg : o.guard = some (j, want)) (ht : (ops[j]?).bind (·.dst) = some t) (hlt : Nat.blt t N = true) (hb : env t = .v (.bool b)) (hf : fits N o = true)
    (h : (b == want) = true → OpD P C o env H d H) (r : PL P C N ops (i + 1) rest (updO env o.dst (gd (b == want) d)) H fun l ks e h => F ((gd (b == want) d, false, H) :: l) (true :: ks) e h) : PL P C N ops i (o :: rest) env H F :=
  let ⟨_, _, e', H', pl, f⟩ := r; ⟨_, _, e', H', .look _ hf (.opg b j want t ho hg ht hlt hb fun e => h (by rw [e]; simp)) pl, f⟩
theorem PL.opl2 (d : D) (G p : Bool) (j : Nat) (want : Bool) (t : Nat) (ho : ops[i]? = some o) (hg : o.guard = some (j, want)) (ht : (ops[j]?).bind (·.dst) = some t) (hlt : Nat.blt t N = true) (hb : env t = gd G (.v (.bool p))) (hf : fits N o = true)
    (h : (G && (p == want)) = true → OpD P C o env H d H) (r : PL P C N ops (i + 1) rest (updO env o.dst (gd (G && (p == want)) d)) H fun l ks e h => F ((gd (G && (p == want)) d, false, H) :: l) (true :: ks) e h) : PL P C N ops i (o :: rest) env H F :=
  let ⟨_, _, e', H', pl, f⟩ := r; ⟨_, _, e', H', .look _ hf (.opg2 G p j want t ho hg ht hlt hb h) pl, f⟩
theorem PL.opm (d : D) (H1 : Heap) (ho : ops[i]? = some o) (hg : o.guard = none) (hf : fits N o = true) (h : OpD P C o env H d H1) (r : PL P C N ops (i + 1) rest (updO env o.dst d) H1 fun l ks e h => F ((d, true, H1) :: l) (false :: ks) e h) : PL P C N ops i (o :: rest) env H F :=
  let ⟨_, _, e', H', p, f⟩ := r; ⟨_, _, e', H', .chg d H1 hf (.op ho hg h) p, f⟩
end
theorem WC.drawnLk {P : Program} {C : Ctx} {N : Nat} {s : St} {Q : DX → St → Prop} {id : Nat} {ol : List Oper} (hm : P.follows .mixedOrders = true)
    (hp : PL P C N ol.toArray 0 ol s.env s.H fun l ks env' H' => drawOK ol.toArray (l.map fun s => s.2.1) = true ∧ lookOK ol.toArray (l.map fun s => s.2.1) ks = true ∧ Q .normal ⟨env', H'⟩) : WC P C N (.region id ol.toArray true) s Q := by
  obtain ⟨l, ks, env', H', hp, hok, hlk, hq⟩ := hp
  exact WC.drawnL l ks env' H' hm hp hok hlk hq
/-- A region that draws its order, in which loads look at blocks that no operation changes. -/
theorem WC.drawnB (ids : List Nat) {P : Program} {C : Ctx} {N : Nat} {s : St} {Q : DX → St → Prop} {id : Nat} {ol : List Oper} (hm : P.follows .mixedOrders = true)
    (hp : PG P C N ol.toArray (fun H => (ids.map fun j => H[j]?) = ids.map fun j => s.H[j]?) 0 ol s.env s.H fun l env' H' => drawOK ol.toArray (l.map fun s => s.2.1) = true ∧ (∀ x ∈ l, x.2.1 = true → (ids.map fun j => x.2.2[j]?) = ids.map fun j => s.H[j]?) ∧ Q .normal ⟨env', H'⟩) : WC P C N (.region id ol.toArray true) s Q :=
  WC.drawn3 (fun H => (ids.map fun j => H[j]?) = ids.map fun j => s.H[j]?) hm rfl hp
theorem keepB {ids : List Nat} {H H0 : Heap} (h : (ids.map fun j => H[j]?) = ids.map fun j => H0[j]?) {j : Nat} (hj : ids.elem j = true) {b : Blk} (hb : H0[j]? = some (some b)) : H[j]? = some (some b) := by
  have hj' : j ∈ ids := by simpa using hj
  exact (List.map_inj_left.1 h j hj').trans hb
end Go.DL
