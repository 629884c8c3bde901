/-
  What the laws stand on, part 4 of 4: plain lemmas; no condition.
-/
import Derived.Test.YtoekdjdgeleelaaPkc
set_option linter.unusedSimpArgs false
set_option linter.unusedVariables false
set_option linter.unusedSectionVars false
namespace Go.DL
open Go.RowKit

/-- A look stands behind all changes ahead of it, and ahead of all behind it. -/
def lookOK (ops : Array Oper) (cs ks : List Bool) : Bool :=
  let b := Go.CheckFast.beforeF ops
  (List.range ops.size).all fun i => !(ks.getD i false) || (List.range ops.size).all fun j => !(cs.getD j false) || Nat.beq j i || (if j < i then (b.getD i 0).testBit j else (b.getD j 0).testBit i)
theorem lookOK_pair {ops : Array Oper} {cs ks : List Bool} (h : lookOK ops cs ks = true) {i j : Nat} (hi : i < ops.size) (hj : j < ops.size) (hk : ks.getD i false = true) (hc : cs.getD j false = true) : (j < i → Bf ops j i) ∧ (i < j → Bf ops i j) := by
  unfold lookOK at h
  have h1 := List.all_eq_true.1 h i (by simpa using hi)
  rw [hk, Bool.not_true, Bool.false_or] at h1
  have h2 := List.all_eq_true.1 h1 j (by simpa using hj)
  rw [hc, Bool.not_true, Bool.false_or] at h2
  refine ⟨fun hlt => before_sound ops i j ?_, fun hlt => before_sound ops j i ?_⟩
  · have hb : Nat.beq j i = false := by
      cases e : Nat.beq j i with
      | false => rfl
      | true => have := Nat.eq_of_beq_eq_true e; omega
    rw [hb, Bool.false_or, if_pos hlt] at h2; exact h2
  · have hb : Nat.beq j i = false := by
      cases e : Nat.beq j i with
      | false => rfl
      | true => have := Nat.eq_of_beq_eq_true e; omega
    rw [hb, Bool.false_or, if_neg (by omega)] at h2; exact h2
/-- A region's steps, in the text's order; 'ks': which ones look at what others change. -/
inductive PlanL (P : Program) (C : Ctx) (N : Nat) (ops : Array Oper) : Nat → List Oper → (Nat → D) → Heap → List (D × Bool × Heap) → List Bool → (Nat → D) → Heap → Prop
  | nil (i : Nat) (env H) : PlanL P C N ops i [] env H [] [] env H
  | pure {i : Nat} {o : Oper} {rest : List Oper} {env H l ks env' H'} (d : D) (hf : fits N o = true) (h : ∀ H, Stp P C N ops i env H d H) (r : PlanL P C N ops (i + 1) rest (updO env o.dst d) H l ks env' H') : PlanL P C N ops i (o :: rest) env H ((d, false, H) :: l) (false :: ks) env' H'
  | look {i : Nat} {o : Oper} {rest : List Oper} {env H l ks env' H'} (d : D) (hf : fits N o = true) (h : Stp P C N ops i env H d H) (r : PlanL P C N ops (i + 1) rest (updO env o.dst d) H l ks env' H') : PlanL P C N ops i (o :: rest) env H ((d, false, H) :: l) (true :: ks) env' H'
  | chg {i : Nat} {o : Oper} {rest : List Oper} {env H l ks env' H'} (d : D) (H1 : Heap) (hf : fits N o = true) (h : Stp P C N ops i env H d H1) (r : PlanL P C N ops (i + 1) rest (updO env o.dst d) H1 l ks env' H') : PlanL P C N ops i (o :: rest) env H ((d, true, H1) :: l) (false :: ks) env' H'
theorem PlanL.length {P : Program} {C : Ctx} {N : Nat} {ops : Array Oper} {i : Nat} {rest : List Oper} {env H l ks env' H'} (h : PlanL P C N ops i rest env H l ks env' H') : l.length = rest.length ∧ ks.length = rest.length := by
  induction h with
  | nil => exact ⟨rfl, rfl⟩
  | pure _ _ _ _ ih => simp [ih]
  | look _ _ _ _ ih => simp [ih]
  | chg _ _ _ _ _ ih => simp [ih]
theorem PlanL.at {P : Program} {C : Ctx} {N : Nat} {ops : Array Oper} {env0 : Nat → D} {H0 : Heap} {l0 : List (D × Bool × Heap)} {ks0 : List Bool} {i : Nat} {rest : List Oper} {env H l ks env' H'} (h : PlanL P C N ops i rest env H l ks env' H')
    (ho : ∀ k, rest[k]? = ops[i + k]?) (hl : ∀ k, l[k]? = l0[i + k]?) (hks : ∀ k, ks[k]? = ks0[i + k]?) (he : env = EL ops l0 (fun _ => true) env0 i) (hh : H = HL l0 (fun _ => true) H0 i) :
    (∀ (k : Nat) s, i ≤ k → l0[k]? = some s → fits N (ops.getD k default) = true ∧ (s.2.1 = false → ks0.getD k false = false → ∀ H, Stp P C N ops k (EL ops l0 (fun _ => true) env0 k) H s.1 H) ∧
      (s.2.1 = false → ks0.getD k false = true → Stp P C N ops k (EL ops l0 (fun _ => true) env0 k) (HL l0 (fun _ => true) H0 k) s.1 (HL l0 (fun _ => true) H0 k)) ∧
      (s.2.1 = true → Stp P C N ops k (EL ops l0 (fun _ => true) env0 k) (HL l0 (fun _ => true) H0 k) s.1 s.2.2)) ∧ env' = EL ops l0 (fun _ => true) env0 (i + rest.length) ∧ H' = HL l0 (fun _ => true) H0 (i + rest.length) := by
  induction h with
  | nil i env H =>
    refine ⟨fun k s hk hs => ?_, by simpa using he, by simpa using hh⟩
    have := hl (k - i)
    rw [show i + (k - i) = k by omega, hs] at this
    simp at this
  | @pure i o rest env H l ks env' H' d hf h r ih =>
    have ho0 : ops[i]? = some o := by simpa using (ho 0).symm
    have hl0 : l0[i]? = some (d, false, H) := by simpa using (hl 0).symm
    have hk0 : ks0[i]? = some false := by simpa using (hks 0).symm
    have hk1 : ks0.getD i false = false := by rw [List.getD_eq_getElem?_getD, hk0]; rfl
    have ih' := ih (fun k => by have := ho (k + 1); simpa [Nat.add_assoc, Nat.add_comm 1 k] using this) (fun k => by have := hl (k + 1); simpa [Nat.add_assoc, Nat.add_comm 1 k] using this) (fun k => by have := hks (k + 1); simpa [Nat.add_assoc, Nat.add_comm 1 k] using this)
      (by subst he; show _ = EL _ _ _ _ (i + 1); rw [EL]; simp [ho0, hl0]) (by subst hh; show _ = HL _ _ _ (i + 1); rw [HL]; simp [hl0])
    refine ⟨fun k s hk hs => ?_, by rw [ih'.2.1]; congr 1; simp; omega, by rw [ih'.2.2]; congr 1; simp; omega⟩
    by_cases e : k = i
    · subst e
      rw [hl0] at hs; cases hs
      refine ⟨by simp [Array.getD_eq_getD_getElem?, ho0]; exact hf, fun _ _ H' => he ▸ h H', fun _ h2 => (by rw [hk1] at h2; cases h2), fun hx => by cases hx⟩
    · exact ih'.1 k s (by omega) hs
  | @look i o rest env H l ks env' H' d hf h r ih =>
    have ho0 : ops[i]? = some o := by simpa using (ho 0).symm
    have hl0 : l0[i]? = some (d, false, H) := by simpa using (hl 0).symm
    have hk0 : ks0[i]? = some true := by simpa using (hks 0).symm
    have hk1 : ks0.getD i false = true := by rw [List.getD_eq_getElem?_getD, hk0]; rfl
    have ih' := ih (fun k => by have := ho (k + 1); simpa [Nat.add_assoc, Nat.add_comm 1 k] using this) (fun k => by have := hl (k + 1); simpa [Nat.add_assoc, Nat.add_comm 1 k] using this) (fun k => by have := hks (k + 1); simpa [Nat.add_assoc, Nat.add_comm 1 k] using this)
      (by subst he; show _ = EL _ _ _ _ (i + 1); rw [EL]; simp [ho0, hl0]) (by subst hh; show _ = HL _ _ _ (i + 1); rw [HL]; simp [hl0])
    refine ⟨fun k s hk hs => ?_, by rw [ih'.2.1]; congr 1; simp; omega, by rw [ih'.2.2]; congr 1; simp; omega⟩
    by_cases e : k = i
    · subst e
      rw [hl0] at hs; cases hs
      refine ⟨by simp [Array.getD_eq_getD_getElem?, ho0]; exact hf, fun _ h2 => (by rw [hk1] at h2; cases h2), fun _ _ => by subst he hh; exact h, fun hx => by cases hx⟩
    · exact ih'.1 k s (by omega) hs
  | @chg i o rest env H l ks env' H' d H1 hf h r ih =>
    have ho0 : ops[i]? = some o := by simpa using (ho 0).symm
    have hl0 : l0[i]? = some (d, true, H1) := by simpa using (hl 0).symm
    have hk0 : ks0[i]? = some false := by simpa using (hks 0).symm
    have hk1 : ks0.getD i false = false := by rw [List.getD_eq_getElem?_getD, hk0]; rfl
    have ih' := ih (fun k => by have := ho (k + 1); simpa [Nat.add_assoc, Nat.add_comm 1 k] using this) (fun k => by have := hl (k + 1); simpa [Nat.add_assoc, Nat.add_comm 1 k] using this) (fun k => by have := hks (k + 1); simpa [Nat.add_assoc, Nat.add_comm 1 k] using this)
      (by subst he; show _ = EL _ _ _ _ (i + 1); rw [EL]; simp [ho0, hl0]) (by show _ = HL _ _ _ (i + 1); rw [HL]; simp [hl0])
    refine ⟨fun k s hk hs => ?_, by rw [ih'.2.1]; congr 1; simp; omega, by rw [ih'.2.2]; congr 1; simp; omega⟩
    by_cases e : k = i
    · subst e
      rw [hl0] at hs; cases hs
      refine ⟨by simp [Array.getD_eq_getD_getElem?, ho0]; exact hf, fun hx => (by cases hx), fun hx => (by cases hx), fun _ => by subst he hh; exact h⟩
    · exact ih'.1 k s (by omega) hs
/-- A region that draws its order: its plan, in the text's order. -/
theorem WC.drawnL {P : Program} {C : Ctx} {N : Nat} {s : St} {Q : DX → St → Prop} {id : Nat} {ol : List Oper} (l : List (D × Bool × Heap)) (ks : List Bool) (env' : Nat → D) (H' : Heap) (hm : P.follows .mixedOrders = true)
    (hp : PlanL P C N ol.toArray 0 ol s.env s.H l ks env' H') (hok : drawOK ol.toArray (l.map fun s => s.2.1) = true) (hlk : lookOK ol.toArray (l.map fun s => s.2.1) ks = true) (hq : Q .normal ⟨env', H'⟩) : WC P C N (.region id ol.toArray true) s Q := by
  intro K β a w hs
  obtain ⟨hst, he', hh'⟩ := hp.at (env0 := s.env) (H0 := s.H) (l0 := l) (ks0 := ks) (by simp) (by simp) (by simp) rfl rfl
  have hlen : l.length = ol.length := hp.length.1
  refine wpIn_region_any hm ?_
  let n := ol.length
  let Lof : Array Bool → Nat → Bool := fun listed i => listed.getD i true
  have key : ∀ (fuel : Nat) (listed : Array Bool) (K1 : Mem) (β1 : Nat → Nat → BT) (a : Act) (w : World), listed.size = ol.length → UL ol.length (fun i => listed.getD i true) ≤ fuel → Closed ol.toArray (fun i => listed.getD i true) → Ext C K β s.H K1 β1 (HL l (fun i => listed.getD i true) s.H ol.length) →
      WS C K1 β1 (HL l (fun i => listed.getD i true) s.H ol.length) w → a.tmps.size = N → Marks C.B K1 a.defers →
      (∀ t, DR K1 β1 true (a.tmps.getD t undef) (EL ol.toArray l (fun i => listed.getD i true) s.env ol.length t)) → (∀ t, OkD (HL l (fun i => listed.getD i true) s.H ol.length) (EL ol.toArray l (fun i => listed.getD i true) s.env ol.length t)) →
      wpAnyIn (FW C.rd) 0 P .any ol.toArray (AftX C N K β s.H Q) fuel listed a w := by
    intro fuel
    induction fuel with
    | zero =>
      intro listed K1 β1 a w hsz hU hcl hK hw hN hdf hrd hokd
      have hall : ∀ i, i < ol.length → listed.getD i true = true := fun i hi => UL_zero (L := fun i => listed.getD i true) (m := ol.length) (by omega) i hi
      refine ⟨?_, ?_⟩
      · rw [List.eq_nil_iff_forall_not_mem]
        intro i hi
        obtain ⟨h0, o, ho, _⟩ := mem_ready.1 hi
        have := hall i (by have := (Array.getElem?_eq_some_iff.1 ho).1; simpa using this)
        rw [this] at h0; cases h0
      · exact drawn_end hK hw hN hdf hrd hokd hall he' hh' hq
    | succ fuel ih =>
      intro listed K1 β1 a w hsz hU hcl hK hw hN hdf hrd hokd
      refine ⟨fun hnil => ?_, fun i hi => ?_⟩
      · have hall : ∀ i, i < ol.length → listed.getD i true = true := by
          intro i
          induction i using Nat.strongRecOn with
          | _ i ihi =>
            intro hi
            cases hL : listed.getD i true with
            | true => rfl
            | false =>
              exfalso
              have : i ∈ Region.ready .any ol.toArray listed := mem_ready.2 ⟨hL, ol[i], by simp [hi], fun e he hb => by
                have hlt := drawOK_edge hok (i := i) (o := ol[i]) (by simp [hi]) he hb
                have := ihi e.on hlt (by omega)
                rwa [getD_bool (by omega)] at this⟩
              rw [hnil] at this; cases this
        exact drawn_end hK hw hN hdf hrd hokd hall he' hh' hq
      · obtain ⟨hLi, o, ho, hed⟩ := mem_ready.1 hi
        have hin : i < ol.length := by have := (Array.getElem?_eq_some_iff.1 ho).1; simpa using this
        have hol : ol.toArray.getD i default = o := by rw [Array.getD_eq_getD_getElem?, ho]; rfl
        have hed' : ∀ e ∈ o.after, Region.binds .any e = true → listed.getD e.on true = true := fun e he hb => by
          have := hed e he hb
          have hlt := drawOK_edge hok ho he hb
          rw [getD_bool (by omega)]; exact this
        have hs' : l[i]? = some (l[i]'(by omega)) := List.getElem?_eq_getElem (by omega)
        obtain ⟨hfit, hP, hLk, hM⟩ := hst i _ (Nat.zero_le _) hs'
        rw [hol] at hfit
        generalize hsi : l[i]'(by omega) = si at *
        -- what it reads
        have hread : ∀ t ∈ o.looksAt ol.toArray, EL ol.toArray l (fun i => listed.getD i true) s.env ol.length t = EL ol.toArray l (fun _ => true) s.env i t := by
          intro t ht
          rw [EL_stop (i := i) ol.length (by omega) fun j oj h1 h2 hoj hd => ?_]
          · refine EL_congr i fun j oj h1 hoj hd => ?_
            exact hcl.ready ho hed' (drawOK_pair hok ho hoj h1 (.inl (clash_spec.2.1 hd ht)))
          · by_cases e : j = i
            · subst e; exact hLi
            · cases hLj : listed.getD j true with
              | false => rfl
              | true =>
                have this : listed.getD i true = true := hcl.bf (drawOK_pair hok hoj ho (by omega) (.inl (clash_spec.1 hd ht))) hLj
                rw [hLi] at this; cases this
        have hset : ∀ j, (listed.setIfInBounds i true).getD j true = if j = i then true else listed.getD j true := by
          intro j
          by_cases e : j = i
          · subst e; rw [if_pos rfl]; simp [hsz, hin]
          · rw [if_neg e, getD_set_ne true (Ne.symm e)]
        have hcl' : Closed ol.toArray (fun j => (listed.setIfInBounds i true).getD j true) := by
          intro j oj hj hoj e he hb
          simp only [hset] at hj ⊢
          by_cases ej : j = i
          · subst ej
            rw [ho] at hoj; cases hoj
            by_cases e2 : e.on = j
            · rw [if_pos e2]
            · rw [if_neg e2]; exact hed' e he hb
          · rw [if_neg ej] at hj
            by_cases e2 : e.on = i
            · rw [if_pos e2]
            · rw [if_neg e2]; exact hcl j oj hj hoj e he hb
        have hU' : UL ol.length (fun j => (listed.setIfInBounds i true).getD j true) ≤ fuel := by
          have := UL_lt (L := fun j => listed.getD j true) (L' := fun j => (listed.setIfInBounds i true).getD j true) ol.length i hin hLi (by simp only [hset, if_true]) (fun j hj => by simp only [hset]; split; rfl; exact hj)
          omega
        have hEL' : ∀ t, EL ol.toArray l (fun j => (listed.setIfInBounds i true).getD j true) s.env ol.length t = updO (EL ol.toArray l (fun j => listed.getD j true) s.env ol.length) o.dst si.1 t := by
          intro t
          by_cases hd : o.dst = some t
          · rw [EL_stop (i := i + 1) ol.length (by omega) fun j oj h1 h2 hoj hdj => ?_]
            · rw [EL]; simp only [hset, if_true, ho, hs', hd, updO, upd_at]
            · have hji : j ≠ i := by omega
              simp only [hset, if_neg hji]
              cases hLj : listed.getD j true with
              | false => rfl
              | true =>
                have this : listed.getD i true = true := hcl.bf (drawOK_pair hok hoj ho (by omega) (.inl (clash_spec.2.2 hdj hd))) hLj
                rw [hLi] at this; cases this
          · rw [EL_congr (L' := fun j => listed.getD j true) ol.length fun j oj h1 hoj hdj => ?_]
            · cases hdd : o.dst with
              | none => rfl
              | some d => exact (upd_ne _ _ (fun he => hd (by rw [hdd, he]))).symm
            · have hji : j ≠ i := by intro e; subst e; rw [ho] at hoj; cases hoj; exact hd hdj
              simp only [hset, if_neg hji]
        have fin : ∀ H1, H1 = HL l (fun j => (listed.setIfInBounds i true).getD j true) s.H ol.length → ∀ (Ho : Heap), Ho = HL l (fun j => listed.getD j true) s.H ol.length → HLe Ho H1 →
            ∀ K' β' v w', KX C K1 K' → Agr Ho β1 β' → WS C K' β' H1 w' → DR K' β' true v si.1 → OkD H1 si.1 →
            wpAnyIn (FW C.rd) 0 P .any ol.toArray (AftX C N K β s.H Q) fuel (listed.setIfInBounds i true) (a.put o.dst v) w' := by
          intro H1 e1 Ho e2 hle K' β' v w' hx hβ hw' hv ho'
          subst e2
          have hold : SR C N K1 β1 ⟨EL ol.toArray l (fun j => listed.getD j true) s.env ol.length, HL l (fun j => listed.getD j true) s.H ol.length⟩ a w := ⟨hw, hN, hdf, hrd, hokd⟩
          have hnew := hold.put hx.le hβ hw' hle hv ho' hfit
          subst e1
          refine ih (listed.setIfInBounds i true) K' β' _ w' (by simp [hsz]) hU' hcl' (hK.trans ⟨hx, hβ, hle⟩) hw' hnew.size hnew.defers (fun t => ?_) fun t => ?_
          · rw [hEL']; exact hnew.rd t
          · rw [hEL']; exact hnew.ok t
        have hcs : ∀ (j : Nat) sj, l[j]? = some sj → (l.map fun s => s.2.1).getD j false = sj.2.1 := by
          intro j sj hj
          rw [List.getD_eq_getElem?_getD, List.getElem?_map, hj]; rfl
        cases hc : si.2.1 with
        | false =>
          have hsame : HL l (fun j => (listed.setIfInBounds i true).getD j true) s.H ol.length = HL l (fun j => listed.getD j true) s.H ol.length := by
            refine HL_congr ol.length fun j sj h1 hj hn => ?_
            have hji : j ≠ i := by intro e; subst e; rw [hs'] at hj; cases hj; rw [hc] at hn; cases hn
            simp only [hset, if_neg hji]
          cases hkk : ks.getD i false with
          | false =>
            refine (hP hc hkk _).go o ho K1 β1 a w _ _ hw hN (fun t ht => ⟨by rw [← hread t ht]; exact hrd t, by rw [← hread t ht]; exact hokd t⟩) fun K' β' v w' hx hβ hw' hv ho' => ?_
            exact fin _ hsame.symm _ rfl (HLe.refl _) K' β' v w' hx hβ hw' hv ho'
          | true =>
            have hcur : HL l (fun j => listed.getD j true) s.H ol.length = HL l (fun _ => true) s.H i := by
              rw [HL_stop (i := i) ol.length (by omega) fun j sj h1 h2 hj hn => ?_]
              · refine HL_congr i fun j sj h1 hj hn => ?_
                exact hcl.ready ho hed' ((lookOK_pair hlk (i := i) (j := j) (by simpa using hin) (by simp; omega) hkk (by rw [hcs j sj hj]; exact hn)).1 h1)
              · by_cases e : j = i
                · subst e; exact hLi
                · cases hLj : listed.getD j true with
                  | false => rfl
                  | true =>
                    have this : listed.getD i true = true := hcl.bf ((lookOK_pair hlk (i := i) (j := j) (by simpa using hin) (by simpa using h2) hkk (by rw [hcs j sj hj]; exact hn)).2 (by omega)) hLj
                    rw [hLi] at this; cases this
            have hStp := hLk hc hkk
            rw [← hcur] at hStp
            refine hStp.go o ho K1 β1 a w _ _ hw hN (fun t ht => ⟨by rw [← hread t ht]; exact hrd t, by rw [← hread t ht]; exact hokd t⟩) fun K' β' v w' hx hβ hw' hv ho' => ?_
            exact fin _ hsame.symm _ rfl (HLe.refl _) K' β' v w' hx hβ hw' hv ho'
        | true =>
          have hcur : HL l (fun j => listed.getD j true) s.H ol.length = HL l (fun _ => true) s.H i := by
            rw [HL_stop (i := i) ol.length (by omega) fun j sj h1 h2 hj hn => ?_]
            · refine HL_congr i fun j sj h1 hj hn => ?_
              refine hcl.ready ho hed' (drawOK_pair hok ho (y := ol[j]) (by simp) h1 (.inr ⟨by rw [hcs i si hs']; exact hc, by rw [hcs j sj hj]; exact hn⟩))
            · by_cases e : j = i
              · subst e; exact hLi
              · cases hLj : listed.getD j true with
                | false => rfl
                | true =>
                  have this : listed.getD i true = true := hcl.bf (drawOK_pair hok (x := ol[j]) (i := j) (by simp) ho (by omega) (.inr ⟨by rw [hcs j sj hj]; exact hn, by rw [hcs i si hs']; exact hc⟩)) hLj
                  rw [hLi] at this; cases this
          have hnext : HL l (fun j => (listed.setIfInBounds i true).getD j true) s.H ol.length = si.2.2 := by
            rw [HL_stop (i := i + 1) ol.length (by omega) fun j sj h1 h2 hj hn => ?_]
            · rw [HL]; simp only [hset, if_true, hs', hc]
            · have hji : j ≠ i := by omega
              simp only [hset, if_neg hji]
              cases hLj : listed.getD j true with
              | false => rfl
              | true =>
                have this : listed.getD i true = true := hcl.bf (drawOK_pair hok (x := ol[j]) (i := j) (by simp) ho (by omega) (.inr ⟨by rw [hcs j sj hj]; exact hn, by rw [hcs i si hs']; exact hc⟩)) hLj
                rw [hLi] at this; cases this
          have hStp := hM hc
          rw [← hcur] at hStp
          refine hStp.go o ho K1 β1 a w _ _ hw hN (fun t ht => ⟨by rw [← hread t ht]; exact hrd t, by rw [← hread t ht]; exact hokd t⟩) fun K' β' v w' hx hβ hw' hv ho' => ?_
          exact fin _ hnext.symm _ rfl hStp.len K' β' v w' hx hβ hw' hv ho'
  have hrep : ∀ j, (Array.replicate ol.toArray.size false).getD j true = (if j < ol.length then false else true) := by
    intro j
    rw [Array.getD_eq_getD_getElem?, Array.getElem?_replicate]
    simp only [List.size_toArray]
    split <;> rfl
  have hE0 : ∀ t, EL ol.toArray l (fun j => (Array.replicate ol.toArray.size false).getD j true) s.env ol.length t = s.env t := by
    intro t
    rw [EL_stop (i := 0) ol.length (by omega) fun j o _ h2 _ _ => by simp only [hrep, if_pos h2]]
    rfl
  have hH0 : HL l (fun j => (Array.replicate ol.toArray.size false).getD j true) s.H ol.length = s.H := by
    rw [HL_stop (i := 0) ol.length (by omega) fun j o _ h2 _ _ => by simp only [hrep, if_pos h2]]
    rfl
  have hd : ({ w with drawn := w.drawn + 1 } : World) = w.drew := rfl
  rw [hd]
  refine key ol.toArray.size _ K β a w.drew (by simp) (by simpa using UL_le _ _) ?_ (by rw [hH0]; exact Ext.refl _ _ _ _) (by rw [hH0]; exact hs.ws.drew) hs.size hs.defers (fun t => by rw [hE0]; exact hs.rd t) (fun t => by rw [hE0, hH0]; exact hs.ok t)
  intro i o hi ho
  simp only [hrep] at hi
  have : i < ol.length := by have := (Array.getElem?_eq_some_iff.1 ho).1; simpa using this
  rw [if_pos this] at hi; cases hi
/-! ### Such regions, walked in the text's order -/
def PL (P : Program) (C : Ctx) (N : Nat) (ops : Array Oper) (i : Nat) (rest : List Oper) (env : Nat → D) (H : Heap) (F : List (D × Bool × Heap) → List Bool → (Nat → D) → Heap → Prop) : Prop := ∃ l ks env' H', PlanL P C N ops i rest env H l ks env' H' ∧ F l ks env' H'
section
variable {P : Program} {C : Ctx} {N : Nat} {ops : Array Oper} {i : Nat} {o : Oper} {rest : List Oper} {env : Nat → D} {H H1 : Heap} {F : List (D × Bool × Heap) → List Bool → (Nat → D) → Heap → Prop} {d : D}
theorem PL.nil (h : F [] [] env H) : PL P C N ops i [] env H F := ⟨[], [], env, H, .nil _ _ _, h⟩
theorem PL.op (d : D) (ho : ops[i]? = some o) (hg : o.guard = none) (hf : fits N o = true) (h : ∀ H, OpD P C o env H d H) (r : PL P C N ops (i + 1) rest (updO env o.dst d) H fun l ks e h => F ((d, false, H) :: l) (false :: ks) e h) : PL P C N ops i (o :: rest) env H F :=
  let ⟨_, _, e', H', p, f⟩ := r; ⟨_, _, e', H', .pure d hf (fun H => .op ho hg (h H)) p, f⟩
theorem PL.opl (d : D) (ho : ops[i]? = some o) (hg : o.guard = none) (hf : fits N o = true) (h : OpD P C o env H d H) (r : PL P C N ops (i + 1) rest (updO env o.dst d) H fun l ks e h => F ((d, false, H) :: l) (true :: ks) e h) : PL P C N ops i (o :: rest) env H F :=
  let ⟨_, _, e', H', p, f⟩ := r; ⟨_, _, e', H', .look d hf (.op ho hg h) p, f⟩
theorem PL.opm (d : D) (H1 : Heap) (ho : ops[i]? = some o) (hg : o.guard = none) (hf : fits N o = true) (h : OpD P C o env H d H1) (r : PL P C N ops (i + 1) rest (updO env o.dst d) H1 fun l ks e h => F ((d, true, H1) :: l) (false :: ks) e h) : PL P C N ops i (o :: rest) env H F :=
  let ⟨_, _, e', H', p, f⟩ := r; ⟨_, _, e', H', .chg d H1 hf (.op ho hg h) p, f⟩
end
theorem WC.drawnLk {P : Program} {C : Ctx} {N : Nat} {s : St} {Q : DX → St → Prop} {id : Nat} {ol : List Oper} (hm : P.follows .mixedOrders = true)
    (hp : PL P C N ol.toArray 0 ol s.env s.H fun l ks env' H' => drawOK ol.toArray (l.map fun s => s.2.1) = true ∧ lookOK ol.toArray (l.map fun s => s.2.1) ks = true ∧ Q .normal ⟨env', H'⟩) : WC P C N (.region id ol.toArray true) s Q := by
  obtain ⟨l, ks, env', H', hp, hok, hlk, hq⟩ := hp
  exact WC.drawnL l ks env' H' hm hp hok hlk hq
end Go.DL
namespace Go.Proofs.Ytoekdjdgeleelaa
open Go.RowKit Go.DL

theorem formB_ok {l : List Sp} (h : InForm l) : formB l = true := by
  unfold formB
  rw [decide_eq_true_eq]
  intro i hi
  unfold okAt
  rw [getD_is hi]
  have h1 := h.ne _ (List.getElem_mem hi)
  rw [decide_eq_true h1, Bool.true_and]
  rcases Nat.eq_zero_or_pos i with h0 | h0
  · subst h0; rfl
  · rw [getD_is (by omega : i - 1 < l.length)]
    have := List.pairwise_iff_getElem.1 h.gap (i - 1) i (by omega) hi (by omega)
    rw [decide_eq_true this, Bool.or_true]
theorem has_any (l : List Sp) (t : Int) : (l.any fun p => hasB p.1 p.2 t) = hasL l t := rfl
theorem hasL_snoc {l : List Sp} {k : Nat} {t : Int} (h : k < l.length) : hasL (l.take (k + 1)) t = (hasL (l.take k) t || hasB (l.getD k (0, 0)).1 (l.getD k (0, 0)).2 t) := by
  rw [getD_is h]
  unfold hasL
  rw [List.take_succ_eq_append_getElem h, List.any_append, List.any_cons, List.any_nil, Bool.or_false]; rfl
set_option maxHeartbeats 4000000 in
theorem ownM_c (l : List Sp) (hl : l.length ≤ 1099511627776) : FunM Try.prog 10 [rdP l] [] (fun o H' => o = .ret (ow 0 l.length 2) ∧ H' = [tb 36 l.length (l.flatMap pc)]) := by
  refine FunM.of Try.func10 rfl (Nat.le_of_ble_eq_true rfl) fun C => ?_
  refine WC.seq fun Fh1_ h1_ => ?_
  refine WC.region ?_
  refine RG.op _ _ rfl rfl (o_assign (.v _) rfl) ?_
  refine RG.nil (h1_ _ ?_)
  refine WC.seq fun Fh2_ h2_ => ?_
  refine WC.region ?_
  refine RG.op _ _ rfl rfl (o_move (.rd _ _) rfl) ?_
  refine RG.op _ _ rfl rfl (o_appN (Elem.of Try.underlying22 Ty.inf36 rfl (by decide)) rfl rfl (by first | omega | exact ubyte _ | (simp only [LS, len_pcs] <;> omega)) (by repeat (first | exact bytesD_one _ | exact one_nil | exact one_map (fun _ => rfl) _ | exact one_vals _ | exact one_pcs _ | refine one_app ?_ ?_ | refine one_cons rfl ?_)) (by first | omega | exact ubyte _ | (simp only [LS, len_pcs] <;> omega)) (by first | omega | exact ubyte _ | (simp only [LS, len_pcs] <;> omega))) ?_
  refine RG.op _ _ rfl rfl (o_assign (.own _ _ _ _ _) rfl) ?_
  refine RG.nil (h2_ _ ?_)
  refine WC.ret ?_
  first | refine endM.mk (H0 := []) 1 [_] rfl rfl (by repeat (first | exact trivial | refine And.intro (one_ok (.own _ _ _ _ _ (Nat.le_refl _))) ?_ | refine And.intro (okp (by repeat (first | exact pu_pcs _ | exact pu_bytes _ | exact pu_nil | exact pu_vs rfl | exact pu_map (fun _ => .v _) _ | exact pu_vals _ | refine pu_app ?_ ?_ | refine pu_cons (by exact pu_of rfl) ?_))) ?_)) ?_ | (simp only [thenQ, blkQ, noGo]; refine endM.mk (H0 := []) 1 [_] rfl rfl (by repeat (first | exact trivial | refine And.intro (one_ok (.own _ _ _ _ _ (Nat.le_refl _))) ?_ | refine And.intro (okp (by repeat (first | exact pu_pcs _ | exact pu_bytes _ | exact pu_nil | exact pu_vs rfl | exact pu_map (fun _ => .v _) _ | exact pu_vals _ | refine pu_app ?_ ?_ | refine pu_cons (by exact pu_of rfl) ?_))) ?_)) ?_) | refine endM.mk 1 [_] rfl rfl (by repeat (first | exact trivial | refine And.intro (one_ok (.own _ _ _ _ _ (Nat.le_refl _))) ?_ | refine And.intro (okp (by repeat (first | exact pu_pcs _ | exact pu_bytes _ | exact pu_nil | exact pu_vs rfl | exact pu_map (fun _ => .v _) _ | exact pu_vals _ | refine pu_app ?_ ?_ | refine pu_cons (by exact pu_of rfl) ?_))) ?_)) ?_
  exact EndsM.r1 rfl (.tmp _ (.own _ _ _ _ _) rfl) (by first | exact .own _ _ _ _ _ (Nat.le_refl _) | exact .v _ | exact Pure'.ok (by exact pu_of rfl) _ | exact .tup _ (by repeat (first | exact ok_nil | refine ok_cons (by first | exact .own _ _ _ _ _ (Nat.le_refl _) | exact .ptr _ _ _ (Nat.le_refl _) | exact .v _ | exact Pure'.ok (by exact pu_of rfl) _) ?_))) (⟨rfl, rfl⟩)
/-- A row turned about, i pairs of it. -/
def stR (l : List Sp) : Nat → List Sp
  | 0 => l
  | i + 1 => ((stR l i).set i ((stR l i).getD (l.length - 1 - i) (0, 0))).set (l.length - 1 - i) ((stR l i).getD i (0, 0))
theorem stR_len (l : List Sp) : ∀ i, (stR l i).length = l.length
  | 0 => rfl
  | i + 1 => by rw [stR, List.length_set, List.length_set, stR_len l i]
theorem stR_perm (l : List Sp) : ∀ i, i * 2 ≤ l.length → (stR l i).Perm l
  | 0, _ => .refl _
  | i + 1, h => by
    have hl := stR_len l i
    have h1 : i < (stR l i).length := by omega
    have h2 : l.length - 1 - i < (stR l i).length := by omega
    rw [stR, getD_is h1, getD_is h2]
    exact (List.set_set_perm h1 h2).trans (stR_perm l i (by omega))
theorem spl_pc2 : ∀ (l : List Sp) (k : Nat) (x y : Int), k < l.length → spl (l.flatMap pc) (0 + k * 2) [I64 x, I64 y] = (l.set k (x, y)).flatMap pc
  | [], k, _, _, h => absurd h (Nat.not_lt_zero k)
  | p :: l, 0, x, y, h => rfl
  | p :: l, k + 1, x, y, h => by
    have h1 := spl_pc2 l k x y (by simpa using h)
    have e1 : 0 + (k + 1) * 2 = (0 + k * 2) + 2 := by omega
    rw [e1]
    show _ = pc p ++ (l.set k (x, y)).flatMap pc
    rw [← h1]
    simp only [spl, pc, List.flatMap_cons, List.cons_append, List.nil_append, List.length_cons, List.length_nil]
    rfl
theorem pc_dtD (l : List Sp) (k : Nat) (h : k < l.length) : ((l.flatMap pc).drop (0 + k * 2)).take 2 = [I64 (l.getD k (0, 0)).1, I64 (l.getD k (0, 0)).2] := by
  rw [getD_is h]; exact pc_dt l k h
theorem of_perm {a r : List Sp} (h : r.Perm a) : ofM (r ++ a) = ofM a := by
  refine (form_eq (ofM_ok _).1 (ofM_ok _).1).2 fun t => ?_
  rw [of_has, of_has, hasL_ext, Mem10.app]
  have : Mem10 r t ↔ Mem10 a t := by
    unfold Mem10
    constructor <;> (rintro ⟨p, hp, h2⟩; exact ⟨p, by first | exact h.mem_iff.1 hp | exact h.mem_iff.2 hp, h2⟩)
  rw [this, or_self]
theorem of_of (a : List Sp) : ofM (ofM a) = ofM a := (form_eq (ofM_ok _).1 (ofM_ok _).1).2 fun t => by rw [of_has]
set_option maxRecDepth 20000 in
set_option maxHeartbeats 4000000 in
theorem sform_c (a : List Sp) (ha : a.length ≤ 9223372036854775807) (b : List Sp) (hb : b.length ≤ 9223372036854775807) (t : Int) (ht : -9223372036854775808 ≤ t ∧ t ≤ 9223372036854775807) : Fun Try.prog 4 [rdP a, rdP b, I64 t] (· = Bo true) := by
  refine Fun.of Try.func4 rfl (Nat.le_of_ble_eq_true rfl) fun C => ?_
  refine WC.seq fun Fh1_ h1_ => ?_
  refine WC.region ?_
  refine RG.op _ _ rfl rfl (o_assign (.v _) rfl) ?_
  refine RG.nil (h1_ _ ?_)
  refine WC.seq fun Fh2_ h2_ => ?_
  refine WC.seq fun Fh3_ h3_ => ?_
  refine WC.region ?_
  refine RG.op _ _ rfl rfl (o_move (.rd _ _) rfl) ?_
  refine RG.op _ _ rfl rfl (o_move (.rd _ _) rfl) ?_
  refine RG.op _ _ rfl rfl (o_litP (cs := [rdP a, rdP b]) Try.underlying46 Ty.inf22 rfl rfl rfl rfl (pu_cons (by exact pu_of rfl) (pu_cons (by exact pu_of rfl) pu_nil))) ?_
  refine RG.op _ _ rfl rfl (o_call (ds := [rdPs [a, b]]) Ty.cal8 (great_c [a, b] (by simp) (by simp; omega)) ⟨.inl rfl, trivial⟩ (by exact pua rfl)) ?_
  refine RG.nil (h3_ _ ?_)
  refine WC.cond _ rfl (fun c1 => ?_) (fun c1 => ?_)
  ·
    have p1 := c1
    try simp only [CN] at p1
    refine WC.seq fun Fh4_ h4_ => ?_
    refine WC.region ?_
    refine RG.op _ _ rfl rfl (o_call Ty.cal9 (wakes10_c) trivial (by exact pua rfl)) ?_
    refine RG.op _ _ rfl rfl (o_assign (.v _) rfl) ?_
    refine RG.nil (h4_ _ ?_)
    refine WC.ret ?_
    exact Ends.r1 rfl (.tmp _ (.v _) rfl) (.v _) (rfl)
  ·
    have p1 := c1
    try simp only [CN] at p1
    have hg := great_no c1
    have ha40 := hg a (by simp)
    have hb40 := hg b (by simp)
    have q3 := bothM_len orG a b
    have q4 := bothM_len andG a b
    have q5 := bothM_len minG a b
    have q6 := ofM_len a
    refine WC.skip (h2_ _ ?_)
    refine WC.seq fun Fh5_ h5_ => ?_
    refine WC.region ?_
    refine RG.op _ _ rfl rfl (o_move (.rd _ _) rfl) ?_
    refine RG.op _ _ rfl rfl (o_call Ty.cal10 (own_c _ (by first | omega | exact ubyte _ | (simp only [LS, len_pcs] <;> omega))) ⟨.inl rfl, trivial⟩ (by exact pua rfl)) ?_
    refine RG.op _ _ rfl rfl (o_move (.rd _ _) rfl) ?_
    refine RG.op _ _ rfl rfl (o_call Ty.cal10 (own_c _ (by first | omega | exact ubyte _ | (simp only [LS, len_pcs] <;> omega))) ⟨.inl rfl, trivial⟩ (by exact pua rfl)) ?_
    refine RG.op _ _ rfl rfl (o_call Ty.cal18 (Or_c _ _ (by first | omega | exact ubyte _ | (simp only [LS, len_pcs] <;> omega)) (by first | omega | exact ubyte _ | (simp only [LS, len_pcs] <;> omega))) ⟨.inl rfl, .inl rfl, trivial⟩ (by exact pua rfl)) ?_
    refine RG.op _ _ rfl rfl (o_move (.rd _ _) rfl) ?_
    refine RG.op _ _ rfl rfl (o_call Ty.cal10 (own_c _ (by first | omega | exact ubyte _ | (simp only [LS, len_pcs] <;> omega))) ⟨.inl rfl, trivial⟩ (by exact pua rfl)) ?_
    refine RG.op _ _ rfl rfl (o_move (.rd _ _) rfl) ?_
    refine RG.op _ _ rfl rfl (o_call Ty.cal10 (own_c _ (by first | omega | exact ubyte _ | (simp only [LS, len_pcs] <;> omega))) ⟨.inl rfl, trivial⟩ (by exact pua rfl)) ?_
    refine RG.op _ _ rfl rfl (o_call Ty.cal20 (And_c _ _ (by first | omega | exact ubyte _ | (simp only [LS, len_pcs] <;> omega)) (by first | omega | exact ubyte _ | (simp only [LS, len_pcs] <;> omega))) ⟨.inl rfl, .inl rfl, trivial⟩ (by exact pua rfl)) ?_
    refine RG.op _ _ rfl rfl (o_move (.rd _ _) rfl) ?_
    refine RG.op _ _ rfl rfl (o_call Ty.cal10 (own_c _ (by first | omega | exact ubyte _ | (simp only [LS, len_pcs] <;> omega))) ⟨.inl rfl, trivial⟩ (by exact pua rfl)) ?_
    refine RG.op _ _ rfl rfl (o_move (.rd _ _) rfl) ?_
    refine RG.op _ _ rfl rfl (o_call Ty.cal10 (own_c _ (by first | omega | exact ubyte _ | (simp only [LS, len_pcs] <;> omega))) ⟨.inl rfl, trivial⟩ (by exact pua rfl)) ?_
    refine RG.op _ _ rfl rfl (o_call Ty.cal22 (Minus_c _ _ (by first | omega | exact ubyte _ | (simp only [LS, len_pcs] <;> omega)) (by first | omega | exact ubyte _ | (simp only [LS, len_pcs] <;> omega))) ⟨.inl rfl, .inl rfl, trivial⟩ (by exact pua rfl)) ?_
    refine RG.op _ _ rfl rfl (o_move (.rd _ _) rfl) ?_
    refine RG.op _ _ rfl rfl (o_call Ty.cal16 (Of_c _ (by first | omega | exact ubyte _ | (simp only [LS, len_pcs] <;> omega))) ⟨.inl rfl, trivial⟩ (by exact pua rfl)) ?_
    refine RG.op _ _ rfl rfl (o_assign (.rd _ _) rfl) ?_
    refine RG.op _ _ rfl rfl (o_assign (.rd _ _) rfl) ?_
    refine RG.op _ _ rfl rfl (o_assign (.rd _ _) rfl) ?_
    refine RG.op _ _ rfl rfl (o_assign (.rd _ _) rfl) ?_
    refine RG.nil (h5_ _ ?_)
    refine WC.seq fun Fh6_ h6_ => ?_
    refine WC.region ?_
    refine RG.op _ _ rfl rfl (o_assign (.v _) rfl) ?_
    refine RG.op _ _ rfl rfl (o_assign (.v _) rfl) ?_
    refine RG.nil (h6_ _ ?_)
    refine WC.seq fun Fh7_ h7_ => ?_
    refine WC.seq fun Fh8_ h8_ => ?_
    refine WC.region ?_
    refine RG.op _ _ rfl rfl (o_assign (.v _) rfl) ?_
    refine RG.nil (h8_ _ ?_)
    refine WC.block ?_
    refine WC.loopU [11, 13, 39, 40, 41, 42, 43, 44, 45, 46, 47, 48, 49, 50, 51, 52, 53] (fun (k : Nat) => [(13, I64 ((k : Nat) : Int)), (11, Bo (hasL (a.take k) t))]) (fun (k : Nat) => []) (fun (k : Nat) => k ≤ a.length) (fun (k : Nat) => a.length - k) 0 (Nat.zero_le _) ?lpa9_ ?lpb10_
    case lpa9_ =>
      exact .mk' ⟨⟨rfl, .v _⟩, ⟨rfl, .v _⟩, trivial⟩ (same_refl _ _) (rfl) (by repeat (first | exact trivial | refine And.intro (Nat.le_refl _) ?_ | refine And.intro trivial ?_ | refine And.intro (by show _ ≤ _; (first | omega | (simp only [LS, len_pcs] <;> omega))) ?_)) (by repeat (first | exact trivial | refine And.intro (one_ok (.own _ _ _ _ _ (Nat.le_refl _))) ?_ | refine And.intro (okp (by repeat (first | exact pu_pcs _ | exact pu_bytes _ | exact pu_nil | exact pu_vs rfl | exact pu_map (fun _ => .v _) _ | exact pu_vals _ | refine pu_app ?_ ?_ | refine pu_cons (by exact pu_of rfl) ?_))) ?_))
    case lpb10_ =>
      rintro k hI
      refine WC.seq fun Fh11_ h11_ => ?_
      refine WC.seq fun Fh12_ h12_ => ?_
      refine WC.region ?_
      refine RG.op _ _ rfl rfl (o_move (.v _) rfl) ?_
      refine RG.op _ _ rfl rfl (o_move (.rd _ _) rfl) ?_
      refine RG.op _ _ rfl rfl (o_len_rd rfl Try.underlying22) ?_
      refine RG.op _ _ rfl rfl (o_ltI rfl rfl) ?_
      refine RG.nil (h12_ _ ?_)
      refine WC.cond _ rfl (fun c6 => ?_) (fun c6 => ?_)
      ·
        have p6 := c6
        try simp only [CN] at p6
        have hka : k < a.length := by omega
        refine WC.skip (h11_ _ ?_)
        refine WC.seq fun Fh13_ h13_ => ?_
        refine WC.block ?_
        refine WC.region ?_
        refine RG.op _ _ rfl rfl (o_move (.v _) rfl) ?_
        refine RG.op _ _ rfl rfl (o_move (.v _) rfl) ?_
        refine RG.opg1 _ _ _ _ _ rfl rfl rfl rfl rfl (fun hb => o_move (.rd _ _) rfl) ?_
        refine RG.opg1 _ _ _ _ _ rfl rfl rfl rfl rfl (fun hb => o_move (.v _) rfl) ?_
        refine RG.opg1 _ _ _ _ _ rfl rfl rfl rfl rfl (fun hb => o_ixn_LZ (l := a) (f := pc) (0, 0) k pc_len rfl (gdT hb) (gdT hb) Try.underlying22 (sz_of Ty.inf36) rfl hka) ?_
        refine RG.opg1 _ _ _ _ _ rfl rfl rfl rfl rfl (fun hb => o_load_adr_L (xs := [I64 (a.getD k (0, 0)).1, I64 (a.getD k (0, 0)).2]) (gdT hb) Try.underlying36 rfl (sz_of Ty.inf36) rfl) ?_
        refine RG.opg1 _ _ _ _ _ rfl rfl rfl rfl rfl (fun hb => o_move (.v _) rfl) ?_
        refine RG.opg1 _ _ _ _ _ rfl rfl rfl rfl rfl (fun hb => o_call (ds := [SP (a.getD k (0, 0)).1 (a.getD k (0, 0)).2, I64 t]) Ty.cal27 (has_c _ _ _) ⟨.inl (gdT hb), .inl (gdT hb), trivial⟩ (by exact pua rfl)) ?_
        refine RG.op _ _ rfl rfl (o_or _ _ rfl rfl rfl) ?_
        refine RG.op _ _ rfl rfl (o_assign (.v _) rfl) ?_
        refine RG.nil (h13_ _ ?_)
        refine WC.region ?_
        refine RG.op _ _ rfl rfl (o_move (.v _) rfl) ?_
        refine RG.op _ _ rfl rfl (o_add rfl rfl (by first | omega | exact ubyte _ | (simp only [LS, len_pcs] <;> omega)) (by first | omega | exact ubyte _ | (simp only [LS, len_pcs] <;> omega))) ?_
        refine RG.op _ _ rfl rfl (o_assign (.v _) rfl) ?_
        refine RG.nil (Exists.intro (k + 1) ⟨by first | omega | (simp only [LS, len_pcs] <;> omega), by first | omega | (simp only [LS, len_pcs] <;> omega), ?_⟩)
        exact .mk' ⟨⟨rfl, .v _⟩, ⟨congrArg Bo (hasL_snoc hka).symm, .v _⟩, trivial⟩ (by repeat (first | with_reducible exact same_refl _ _ | with_reducible refine same_updO (by with_unfolding_all exact rfl) ?_ | with_reducible refine same_updN ?_ | with_reducible refine same_updL (by with_unfolding_all exact rfl) ?_ | with_reducible refine same_forget (by with_unfolding_all exact rfl) ?_)) (rfl) (by repeat (first | exact trivial | refine And.intro (Nat.le_refl _) ?_ | refine And.intro trivial ?_ | refine And.intro (by show _ ≤ _; (first | omega | (simp only [LS, len_pcs] <;> omega))) ?_)) (by repeat (first | exact trivial | refine And.intro (one_ok (.own _ _ _ _ _ (Nat.le_refl _))) ?_ | refine And.intro (okp (by repeat (first | exact pu_pcs _ | exact pu_bytes _ | exact pu_nil | exact pu_vs rfl | exact pu_map (fun _ => .v _) _ | exact pu_vals _ | refine pu_app ?_ ?_ | refine pu_cons (by exact pu_of rfl) ?_))) ?_))
      ·
        have p6 := c6
        try simp only [CN] at p6
        have eka : a.take k = a := List.take_of_length_le (by omega)
        refine WC.exit (h7_ _ ?_)
        refine WC.seq fun Fh14_ h14_ => ?_
        refine WC.seq fun Fh15_ h15_ => ?_
        refine WC.region ?_
        refine RG.op _ _ rfl rfl (o_assign (.v _) rfl) ?_
        refine RG.nil (h15_ _ ?_)
        refine WC.block ?_
        refine WC.loopU [12, 14, 54, 55, 56, 57, 58, 59, 60, 61, 62, 63, 64, 65, 66, 67, 68] (fun (j : Nat) => [(14, I64 ((j : Nat) : Int)), (12, Bo (hasL (b.take j) t))]) (fun (j : Nat) => []) (fun (j : Nat) => j ≤ b.length) (fun (j : Nat) => b.length - j) 0 (Nat.zero_le _) ?lpa16_ ?lpb17_
        case lpa16_ =>
          exact .mk' ⟨⟨rfl, .v _⟩, ⟨rfl, .v _⟩, trivial⟩ (same_refl _ _) (rfl) (by repeat (first | exact trivial | refine And.intro (Nat.le_refl _) ?_ | refine And.intro trivial ?_ | refine And.intro (by show _ ≤ _; (first | omega | (simp only [LS, len_pcs] <;> omega))) ?_)) (by repeat (first | exact trivial | refine And.intro (one_ok (.own _ _ _ _ _ (Nat.le_refl _))) ?_ | refine And.intro (okp (by repeat (first | exact pu_pcs _ | exact pu_bytes _ | exact pu_nil | exact pu_vs rfl | exact pu_map (fun _ => .v _) _ | exact pu_vals _ | refine pu_app ?_ ?_ | refine pu_cons (by exact pu_of rfl) ?_))) ?_))
        case lpb17_ =>
          rintro j hI
          refine WC.seq fun Fh18_ h18_ => ?_
          refine WC.seq fun Fh19_ h19_ => ?_
          refine WC.region ?_
          refine RG.op _ _ rfl rfl (o_move (.v _) rfl) ?_
          refine RG.op _ _ rfl rfl (o_move (.rd _ _) rfl) ?_
          refine RG.op _ _ rfl rfl (o_len_rd rfl Try.underlying22) ?_
          refine RG.op _ _ rfl rfl (o_ltI rfl rfl) ?_
          refine RG.nil (h19_ _ ?_)
          refine WC.cond _ rfl (fun c10 => ?_) (fun c10 => ?_)
          ·
            have p10 := c10
            try simp only [CN] at p10
            have hjb : j < b.length := by omega
            refine WC.skip (h18_ _ ?_)
            refine WC.seq fun Fh20_ h20_ => ?_
            refine WC.block ?_
            refine WC.region ?_
            refine RG.op _ _ rfl rfl (o_move (.v _) rfl) ?_
            refine RG.op _ _ rfl rfl (o_move (.v _) rfl) ?_
            refine RG.opg1 _ _ _ _ _ rfl rfl rfl rfl rfl (fun hb => o_move (.rd _ _) rfl) ?_
            refine RG.opg1 _ _ _ _ _ rfl rfl rfl rfl rfl (fun hb => o_move (.v _) rfl) ?_
            refine RG.opg1 _ _ _ _ _ rfl rfl rfl rfl rfl (fun hb => o_ixn_LZ (l := b) (f := pc) (0, 0) j pc_len rfl (gdT hb) (gdT hb) Try.underlying22 (sz_of Ty.inf36) rfl hjb) ?_
            refine RG.opg1 _ _ _ _ _ rfl rfl rfl rfl rfl (fun hb => o_load_adr_L (xs := [I64 (b.getD j (0, 0)).1, I64 (b.getD j (0, 0)).2]) (gdT hb) Try.underlying36 rfl (sz_of Ty.inf36) rfl) ?_
            refine RG.opg1 _ _ _ _ _ rfl rfl rfl rfl rfl (fun hb => o_move (.v _) rfl) ?_
            refine RG.opg1 _ _ _ _ _ rfl rfl rfl rfl rfl (fun hb => o_call (ds := [SP (b.getD j (0, 0)).1 (b.getD j (0, 0)).2, I64 t]) Ty.cal27 (has_c _ _ _) ⟨.inl (gdT hb), .inl (gdT hb), trivial⟩ (by exact pua rfl)) ?_
            refine RG.op _ _ rfl rfl (o_or _ _ rfl rfl rfl) ?_
            refine RG.op _ _ rfl rfl (o_assign (.v _) rfl) ?_
            refine RG.nil (h20_ _ ?_)
            refine WC.region ?_
            refine RG.op _ _ rfl rfl (o_move (.v _) rfl) ?_
            refine RG.op _ _ rfl rfl (o_add rfl rfl (by first | omega | exact ubyte _ | (simp only [LS, len_pcs] <;> omega)) (by first | omega | exact ubyte _ | (simp only [LS, len_pcs] <;> omega))) ?_
            refine RG.op _ _ rfl rfl (o_assign (.v _) rfl) ?_
            refine RG.nil (Exists.intro (j + 1) ⟨by first | omega | (simp only [LS, len_pcs] <;> omega), by first | omega | (simp only [LS, len_pcs] <;> omega), ?_⟩)
            exact .mk' ⟨⟨rfl, .v _⟩, ⟨congrArg Bo (hasL_snoc hjb).symm, .v _⟩, trivial⟩ (by repeat (first | with_reducible exact same_refl _ _ | with_reducible refine same_updO (by with_unfolding_all exact rfl) ?_ | with_reducible refine same_updN ?_ | with_reducible refine same_updL (by with_unfolding_all exact rfl) ?_ | with_reducible refine same_forget (by with_unfolding_all exact rfl) ?_)) (rfl) (by repeat (first | exact trivial | refine And.intro (Nat.le_refl _) ?_ | refine And.intro trivial ?_ | refine And.intro (by show _ ≤ _; (first | omega | (simp only [LS, len_pcs] <;> omega))) ?_)) (by repeat (first | exact trivial | refine And.intro (one_ok (.own _ _ _ _ _ (Nat.le_refl _))) ?_ | refine And.intro (okp (by repeat (first | exact pu_pcs _ | exact pu_bytes _ | exact pu_nil | exact pu_vs rfl | exact pu_map (fun _ => .v _) _ | exact pu_vals _ | refine pu_app ?_ ?_ | refine pu_cons (by exact pu_of rfl) ?_))) ?_))
          ·
            have p10 := c10
            try simp only [CN] at p10
            have ejb : b.take j = b := List.take_of_length_le (by omega)
            have f1 := formB_ok (bothM_ok (g := orG) rfl a b).1
            have f2 := formB_ok (bothM_ok (g := andG) rfl a b).1
            have f3 := formB_ok (bothM_ok (g := minG) rfl a b).1
            have f4 := formB_ok (ofM_ok a).1
            have g1 := (bothM_ok (g := orG) rfl a b).2 t
            have g2 := (bothM_ok (g := andG) rfl a b).2 t
            have g3 := (bothM_ok (g := minG) rfl a b).2 t
            have g4 := of_has a t
            refine WC.exit (h14_ _ ?_)
            refine WC.seq fun Fh21_ h21_ => ?_
            refine WC.seq fun Fh22_ h22_ => ?_
            refine WC.region ?_
            refine RG.op _ _ rfl rfl (o_move (.rd _ _) rfl) ?_
            refine RG.op _ _ rfl rfl (o_call Ty.cal28 (form_c _ (by first | omega | exact ubyte _ | (simp only [LS, len_pcs] <;> omega))) ⟨.inl rfl, trivial⟩ (by exact pua rfl)) ?_
            refine RG.op _ _ rfl rfl (o_not rfl) ?_
            refine RG.op _ _ rfl rfl (o_move (.v _) rfl) ?_
            refine RG.opg1 _ _ _ _ _ rfl rfl rfl rfl rfl (fun hb => o_move (.rd _ _) rfl) ?_
            refine RG.opg1 _ _ _ _ _ rfl rfl rfl rfl rfl (fun hb => o_call Ty.cal28 (form_c _ (by first | omega | exact ubyte _ | (have hb' := hb; simp only [CN] at hb'; omega) | (simp only [LS, len_pcs] <;> omega) | (have hb' := hb; simp only [CN] at hb'; simp only [LS, len_pcs]; omega))) ⟨.inl (gdT hb), trivial⟩ (by exact pua rfl)) ?_
            refine RG.opg1 _ _ _ _ _ rfl rfl rfl rfl rfl (fun hb => o_not (gdT hb)) ?_
            refine RG.op _ _ rfl rfl (o_or _ _ rfl rfl rfl) ?_
            refine RG.op _ _ rfl rfl (o_move (.v _) rfl) ?_
            refine RG.opg1 _ _ _ _ _ rfl rfl rfl rfl rfl (fun hb => o_move (.rd _ _) rfl) ?_
            refine RG.opg1 _ _ _ _ _ rfl rfl rfl rfl rfl (fun hb => o_call Ty.cal28 (form_c _ (by first | omega | exact ubyte _ | (have hb' := hb; simp only [CN] at hb'; omega) | (simp only [LS, len_pcs] <;> omega) | (have hb' := hb; simp only [CN] at hb'; simp only [LS, len_pcs]; omega))) ⟨.inl (gdT hb), trivial⟩ (by exact pua rfl)) ?_
            refine RG.opg1 _ _ _ _ _ rfl rfl rfl rfl rfl (fun hb => o_not (gdT hb)) ?_
            refine RG.op _ _ rfl rfl (o_or _ _ rfl rfl rfl) ?_
            refine RG.op _ _ rfl rfl (o_move (.v _) rfl) ?_
            refine RG.opg1 _ _ _ _ _ rfl rfl rfl rfl rfl (fun hb => o_move (.rd _ _) rfl) ?_
            refine RG.opg1 _ _ _ _ _ rfl rfl rfl rfl rfl (fun hb => o_call Ty.cal28 (form_c _ (by first | omega | exact ubyte _ | (have hb' := hb; simp only [CN] at hb'; omega) | (simp only [LS, len_pcs] <;> omega) | (have hb' := hb; simp only [CN] at hb'; simp only [LS, len_pcs]; omega))) ⟨.inl (gdT hb), trivial⟩ (by exact pua rfl)) ?_
            refine RG.opg1 _ _ _ _ _ rfl rfl rfl rfl rfl (fun hb => o_not (gdT hb)) ?_
            refine RG.op _ _ rfl rfl (o_or _ _ rfl rfl rfl) ?_
            refine RG.op _ _ rfl rfl (o_move (.v _) rfl) ?_
            refine RG.opg1 _ _ _ _ _ rfl rfl rfl rfl rfl (fun hb => o_move (.rd _ _) rfl) ?_
            refine RG.opg1 _ _ _ _ _ rfl rfl rfl rfl rfl (fun hb => o_move (.v _) rfl) ?_
            refine RG.opg1 _ _ _ _ _ rfl rfl rfl rfl rfl (fun hb => o_call Ty.cal24 (pHas_c _ _ (by first | omega | exact ubyte _ | (have hb' := hb; simp only [CN] at hb'; omega) | (simp only [LS, len_pcs] <;> omega) | (have hb' := hb; simp only [CN] at hb'; simp only [LS, len_pcs]; omega))) ⟨.inl (gdT hb), .inl (gdT hb), trivial⟩ (by exact pua rfl)) ?_
            refine RG.opg1 _ _ _ _ _ rfl rfl rfl rfl rfl (fun hb => o_move (.v _) rfl) ?_
            refine RG.opg1 _ _ _ _ _ rfl rfl rfl rfl rfl (fun hb => o_neb (gdT hb) (gdT hb) Try.underlying4) ?_
            refine RG.op _ _ rfl rfl (o_or _ _ rfl rfl rfl) ?_
            refine RG.op _ _ rfl rfl (o_move (.v _) rfl) ?_
            refine RG.opg1 _ _ _ _ _ rfl rfl rfl rfl rfl (fun hb => o_move (.rd _ _) rfl) ?_
            refine RG.opg1 _ _ _ _ _ rfl rfl rfl rfl rfl (fun hb => o_move (.v _) rfl) ?_
            refine RG.opg1 _ _ _ _ _ rfl rfl rfl rfl rfl (fun hb => o_call Ty.cal24 (pHas_c _ _ (by first | omega | exact ubyte _ | (have hb' := hb; simp only [CN] at hb'; omega) | (simp only [LS, len_pcs] <;> omega) | (have hb' := hb; simp only [CN] at hb'; simp only [LS, len_pcs]; omega))) ⟨.inl (gdT hb), .inl (gdT hb), trivial⟩ (by exact pua rfl)) ?_
            refine RG.opg1 _ _ _ _ _ rfl rfl rfl rfl rfl (fun hb => o_move (.v _) rfl) ?_
            refine RG.opg1 _ _ _ _ _ rfl rfl rfl rfl rfl (fun hb => o_neb (gdT hb) (gdT hb) Try.underlying4) ?_
            refine RG.op _ _ rfl rfl (o_or _ _ rfl rfl rfl) ?_
            refine RG.op _ _ rfl rfl (o_move (.v _) rfl) ?_
            refine RG.opg1 _ _ _ _ _ rfl rfl rfl rfl rfl (fun hb => o_move (.rd _ _) rfl) ?_
            refine RG.opg1 _ _ _ _ _ rfl rfl rfl rfl rfl (fun hb => o_move (.v _) rfl) ?_
            refine RG.opg1 _ _ _ _ _ rfl rfl rfl rfl rfl (fun hb => o_call Ty.cal24 (pHas_c _ _ (by first | omega | exact ubyte _ | (have hb' := hb; simp only [CN] at hb'; omega) | (simp only [LS, len_pcs] <;> omega) | (have hb' := hb; simp only [CN] at hb'; simp only [LS, len_pcs]; omega))) ⟨.inl (gdT hb), .inl (gdT hb), trivial⟩ (by exact pua rfl)) ?_
            refine RG.opg1 _ _ _ _ _ rfl rfl rfl rfl rfl (fun hb => o_move (.v _) rfl) ?_
            refine RG.opg1 _ _ _ _ _ rfl rfl rfl rfl rfl (fun hb => o_move (.v _) (gdT hb)) ?_
            refine RG.opg2 _ _ _ _ _ _ rfl rfl rfl rfl rfl (fun hb => o_move (.v _) rfl) ?_
            refine RG.opg1 _ _ _ _ _ rfl rfl rfl rfl rfl (fun hb => o_or _ _ (gdT hb) rfl (gdS hb)) ?_
            refine RG.opg1 _ _ _ _ _ rfl rfl rfl rfl rfl (fun hb => o_neb (gdT hb) (gdT hb) Try.underlying4) ?_
            refine RG.op _ _ rfl rfl (o_or _ _ rfl rfl rfl) ?_
            refine RG.op _ _ rfl rfl (o_move (.v _) rfl) ?_
            refine RG.opg1 _ _ _ _ _ rfl rfl rfl rfl rfl (fun hb => o_move (.rd _ _) rfl) ?_
            refine RG.opg1 _ _ _ _ _ rfl rfl rfl rfl rfl (fun hb => o_move (.v _) rfl) ?_
            refine RG.opg1 _ _ _ _ _ rfl rfl rfl rfl rfl (fun hb => o_call Ty.cal24 (pHas_c _ _ (by first | omega | exact ubyte _ | (have hb' := hb; simp only [CN] at hb'; omega) | (simp only [LS, len_pcs] <;> omega) | (have hb' := hb; simp only [CN] at hb'; simp only [LS, len_pcs]; omega))) ⟨.inl (gdT hb), .inl (gdT hb), trivial⟩ (by exact pua rfl)) ?_
            refine RG.opg1 _ _ _ _ _ rfl rfl rfl rfl rfl (fun hb => o_move (.v _) rfl) ?_
            refine RG.opg1 _ _ _ _ _ rfl rfl rfl rfl rfl (fun hb => o_move (.v _) (gdT hb)) ?_
            refine RG.opg2 _ _ _ _ _ _ rfl rfl rfl rfl rfl (fun hb => o_move (.v _) rfl) ?_
            refine RG.opg1 _ _ _ _ _ rfl rfl rfl rfl rfl (fun hb => o_and _ _ (gdT hb) (gdS hb) rfl) ?_
            refine RG.opg1 _ _ _ _ _ rfl rfl rfl rfl rfl (fun hb => o_neb (gdT hb) (gdT hb) Try.underlying4) ?_
            refine RG.op _ _ rfl rfl (o_or _ _ rfl rfl rfl) ?_
            refine RG.op _ _ rfl rfl (o_move (.v _) rfl) ?_
            refine RG.opg1 _ _ _ _ _ rfl rfl rfl rfl rfl (fun hb => o_move (.rd _ _) rfl) ?_
            refine RG.opg1 _ _ _ _ _ rfl rfl rfl rfl rfl (fun hb => o_move (.v _) rfl) ?_
            refine RG.opg1 _ _ _ _ _ rfl rfl rfl rfl rfl (fun hb => o_call Ty.cal24 (pHas_c _ _ (by first | omega | exact ubyte _ | (have hb' := hb; simp only [CN] at hb'; omega) | (simp only [LS, len_pcs] <;> omega) | (have hb' := hb; simp only [CN] at hb'; simp only [LS, len_pcs]; omega))) ⟨.inl (gdT hb), .inl (gdT hb), trivial⟩ (by exact pua rfl)) ?_
            refine RG.opg1 _ _ _ _ _ rfl rfl rfl rfl rfl (fun hb => o_move (.v _) rfl) ?_
            refine RG.opg1 _ _ _ _ _ rfl rfl rfl rfl rfl (fun hb => o_move (.v _) (gdT hb)) ?_
            refine RG.opg2 _ _ _ _ _ _ rfl rfl rfl rfl rfl (fun hb => o_move (.v _) rfl) ?_
            refine RG.opg2 _ _ _ _ _ _ rfl rfl rfl rfl rfl (fun hb => o_not (gdT hb)) ?_
            refine RG.opg1 _ _ _ _ _ rfl rfl rfl rfl rfl (fun hb => o_and _ _ (gdT hb) (gdS hb) rfl) ?_
            refine RG.opg1 _ _ _ _ _ rfl rfl rfl rfl rfl (fun hb => o_neb (gdT hb) (gdT hb) Try.underlying4) ?_
            refine RG.op _ _ rfl rfl (o_or _ _ rfl rfl rfl) ?_
            refine RG.nil (h22_ _ ?_)
            refine WC.cond _ rfl (fun c13 => ?_) (fun c13 => ?_)
            ·
              (exfalso; revert c13; simp only [has_any, eka, ejb, f1, f2, f3, f4, g1, g2, g3, g4, orG, andG, minG]; cases hasL a t <;> cases hasL b t <;> decide)
            ·
              refine WC.skip (h21_ _ ?_)
              refine WC.seq fun Fh23_ h23_ => ?_
              refine WC.region ?_
              refine RG.op _ _ rfl rfl (o_move (.rd _ _) rfl) ?_
              refine RG.op _ _ rfl rfl (OpX.d (x_call Ty.cal10 (FunM.new1 (ownM_c a (by omega)) ⟨.rd _ _, trivial⟩ (by repeat (first | exact pu_pcs _ | exact pu_bytes _ | exact pu_nil | exact pu_vs rfl | exact pu_map (fun _ => .v _) _ | exact pu_vals _ | refine pu_app ?_ ?_ | refine pu_cons (by exact pu_of rfl) ?_))) ⟨.inl rfl, trivial⟩) (VLe.le (by repeat (first | exact trivial | refine And.intro (Nat.le_refl _) ?_ | refine And.intro trivial ?_ | refine And.intro (by show _ ≤ _; (first | omega | (simp only [LS, len_pcs] <;> omega))) ?_)))) ?_
              refine RG.op _ _ rfl rfl (o_assign (.own _ _ _ _ _) rfl) ?_
              refine RG.nil (h23_ _ ?_)
              refine WC.seq fun Fh24_ h24_ => ?_
              refine WC.seq fun Fh25_ h25_ => ?_
              refine WC.region ?_
              refine RG.op _ _ rfl rfl (o_assign (.v _) rfl) ?_
              refine RG.nil (h25_ _ ?_)
              refine WC.block ?_
              refine WC.loopU [16, 134, 135, 136, 137, 138, 139, 140, 141, 142, 143, 144, 145, 146, 147, 148, 149, 150, 151, 152, 153, 154, 155, 156, 157, 158, 159, 160, 161, 162] (fun (i : Nat) => [(16, I64 ((i : Nat) : Int))]) (fun (i : Nat) => [(0, tb 36 a.length ((stR a i).flatMap pc))]) (fun (i : Nat) => i * 2 ≤ a.length) (fun (i : Nat) => a.length / 2 - i) 0 (Nat.zero_le _) ?lpa26_ ?lpb27_
              case lpa26_ =>
                exact .mk' ⟨⟨rfl, .v _⟩, trivial⟩ (same_refl _ _) (rfl) (by repeat (first | exact trivial | refine And.intro (Nat.le_refl _) ?_ | refine And.intro trivial ?_ | refine And.intro (by show _ ≤ _; (first | omega | (simp only [LS, len_pcs] <;> omega))) ?_)) (by repeat (first | exact trivial | refine And.intro (one_ok (.own _ _ _ _ _ (Nat.le_refl _))) ?_ | refine And.intro (okp (by repeat (first | exact pu_pcs _ | exact pu_bytes _ | exact pu_nil | exact pu_vs rfl | exact pu_map (fun _ => .v _) _ | exact pu_vals _ | refine pu_app ?_ ?_ | refine pu_cons (by exact pu_of rfl) ?_))) ?_))
              case lpb27_ =>
                rintro i hI
                have hsl := stR_len a i
                refine WC.seq fun Fh28_ h28_ => ?_
                refine WC.seq fun Fh29_ h29_ => ?_
                refine WC.region ?_
                refine RG.op _ _ rfl rfl (o_move (.v _) rfl) ?_
                refine RG.op _ _ rfl rfl (o_move (.own _ _ _ _ _) rfl) ?_
                refine RG.op _ _ rfl rfl (o_len_own rfl Try.underlying22) ?_
                refine RG.op _ _ rfl rfl (o_quo rfl rfl (by first | omega | exact ubyte _ | (simp only [LS, len_pcs] <;> omega)) (by first | omega | exact ubyte _ | (simp only [LS, len_pcs] <;> omega)) (by first | omega | exact ubyte _ | (simp only [LS, len_pcs] <;> omega))) ?_
                refine RG.op _ _ rfl rfl (o_ltI rfl rfl) ?_
                refine RG.nil (h29_ _ ?_)
                refine WC.cond _ rfl (fun c17 => ?_) (fun c17 => ?_)
                ·
                  have p17 := c17
                  try simp only [CN] at p17
                  have hi2 : (i + 1) * 2 ≤ a.length := by omega
                  refine WC.skip (h28_ _ ?_)
                  refine WC.seq fun Fh30_ h30_ => ?_
                  refine WC.block ?_
                  refine WC.drawnLk (by kernel_rfl) ?_
                  refine PL.op _ rfl rfl rfl ((fun _ => o_move (.own _ _ _ _ _) rfl)) ?_
                  refine PL.op _ rfl rfl rfl ((fun _ => o_move (.v _) rfl)) ?_
                  refine PL.op _ rfl rfl rfl ((fun _ => o_move (.own _ _ _ _ _) rfl)) ?_
                  refine PL.op _ rfl rfl rfl ((fun _ => o_move (.own _ _ _ _ _) rfl)) ?_
                  refine PL.op _ rfl rfl rfl ((fun _ => o_len_own rfl Try.underlying22)) ?_
                  refine PL.op _ rfl rfl rfl ((fun _ => o_sub rfl rfl (by first | omega | exact ubyte _ | (simp only [LS, len_pcs] <;> omega)) (by first | omega | exact ubyte _ | (simp only [LS, len_pcs] <;> omega)))) ?_
                  refine PL.op _ rfl rfl rfl ((fun _ => o_move (.v _) rfl)) ?_
                  refine PL.op _ rfl rfl rfl ((fun _ => o_sub rfl rfl (by first | omega | exact ubyte _ | (simp only [LS, len_pcs] <;> omega)) (by first | omega | exact ubyte _ | (simp only [LS, len_pcs] <;> omega)))) ?_
                  refine PL.op _ rfl rfl rfl ((fun _ => o_move (.own _ _ _ _ _) rfl)) ?_
                  refine PL.op _ rfl rfl rfl ((fun _ => o_move (.own _ _ _ _ _) rfl)) ?_
                  refine PL.op _ rfl rfl rfl ((fun _ => o_len_own rfl Try.underlying22)) ?_
                  refine PL.op _ rfl rfl rfl ((fun _ => o_sub rfl rfl (by first | omega | exact ubyte _ | (simp only [LS, len_pcs] <;> omega)) (by first | omega | exact ubyte _ | (simp only [LS, len_pcs] <;> omega)))) ?_
                  refine PL.op _ rfl rfl rfl ((fun _ => o_move (.v _) rfl)) ?_
                  refine PL.op _ rfl rfl rfl ((fun _ => o_sub rfl rfl (by first | omega | exact ubyte _ | (simp only [LS, len_pcs] <;> omega)) (by first | omega | exact ubyte _ | (simp only [LS, len_pcs] <;> omega)))) ?_
                  refine PL.op _ rfl rfl rfl ((fun _ => o_ixn_own (a.length - 1 - i) rfl rfl Try.underlying22 (sz_of Ty.inf36) (by omega) (by omega))) ?_
                  refine PL.opl _ rfl rfl rfl (o_load_ptr_L (b := ⟨(stR a i).flatMap pc, 36, true, a.length⟩) (xs := [I64 ((stR a i).getD (a.length - 1 - i) (0, 0)).1, I64 ((stR a i).getD (a.length - 1 - i) (0, 0)).2]) rfl Try.underlying36 rfl (sz_of Ty.inf36) rfl rfl (Nat.ble_eq_true_of_le (by show 0 + (a.length - 1 - i) * 2 + 2 ≤ ((stR a i).flatMap pc).length; rw [len_pcs]; omega)) (pc_dtD _ _ (by omega))) ?_
                  refine PL.op _ rfl rfl rfl ((fun _ => o_move (.own _ _ _ _ _) rfl)) ?_
                  refine PL.op _ rfl rfl rfl ((fun _ => o_move (.v _) rfl)) ?_
                  refine PL.op _ rfl rfl rfl ((fun _ => o_ixn_own i rfl rfl Try.underlying22 (sz_of Ty.inf36) (by first | omega | exact ubyte _ | (simp only [LS, len_pcs] <;> omega)) (by first | omega | exact ubyte _ | (simp only [LS, len_pcs] <;> omega)))) ?_
                  refine PL.opl _ rfl rfl rfl (o_load_ptr_L (b := ⟨(stR a i).flatMap pc, 36, true, a.length⟩) (xs := [I64 ((stR a i).getD i (0, 0)).1, I64 ((stR a i).getD i (0, 0)).2]) rfl Try.underlying36 rfl (sz_of Ty.inf36) rfl rfl (Nat.ble_eq_true_of_le (by show 0 + i * 2 + 2 ≤ ((stR a i).flatMap pc).length; rw [len_pcs]; omega)) (pc_dtD _ _ (by omega))) ?_
                  refine PL.op _ rfl rfl rfl ((fun _ => o_ixn_own i rfl rfl Try.underlying22 (sz_of Ty.inf36) (by first | omega | exact ubyte _ | (simp only [LS, len_pcs] <;> omega)) (by first | omega | exact ubyte _ | (simp only [LS, len_pcs] <;> omega)))) ?_
                  refine PL.opm _ _ rfl rfl rfl (o_store (d := .agg [_, _]) rfl rfl rfl rfl (sz_of Ty.inf36) (by show 0 + i * 2 + 2 ≤ ((stR a i).flatMap pc).length; rw [len_pcs]; omega) rfl) ?_
                  refine PL.op _ rfl rfl rfl ((fun _ => o_ixn_own (a.length - 1 - i) rfl rfl Try.underlying22 (sz_of Ty.inf36) (by omega) (by omega))) ?_
                  refine PL.opm _ _ rfl rfl rfl (o_store (d := .agg [_, _]) rfl rfl rfl rfl (sz_of Ty.inf36) (by show 0 + (a.length - 1 - i) * 2 + 2 ≤ (spl ((stR a i).flatMap pc) (0 + i * 2) [_, _]).length; rw [spl_pc2 _ i _ _ (by omega), len_pcs, List.length_set]; omega) rfl) ?_
                  refine PL.nil ⟨by kernel_rfl, by kernel_rfl, (h30_ _ ?_)⟩
                  refine WC.region ?_
                  refine RG.op _ _ rfl rfl (o_move (.v _) rfl) ?_
                  refine RG.op _ _ rfl rfl (o_add rfl rfl (by first | omega | exact ubyte _ | (simp only [LS, len_pcs] <;> omega)) (by first | omega | exact ubyte _ | (simp only [LS, len_pcs] <;> omega))) ?_
                  refine RG.op _ _ rfl rfl (o_assign (.v _) rfl) ?_
                  refine RG.nil (Exists.intro (i + 1) ⟨by first | omega | (simp only [LS, len_pcs] <;> omega), by first | omega | (simp only [LS, len_pcs] <;> omega), ?_⟩)
                  exact .mk' ⟨⟨rfl, .v _⟩, trivial⟩ (by repeat (first | with_reducible exact same_refl _ _ | with_reducible refine same_updO (by with_unfolding_all exact rfl) ?_ | with_reducible refine same_updN ?_ | with_reducible refine same_updL (by with_unfolding_all exact rfl) ?_ | with_reducible refine same_forget (by with_unfolding_all exact rfl) ?_)) (congrArg (fun c => [c]) (tb_eq rfl (by rw [stR]; exact (congrArg (fun l => spl l _ _) (spl_pc2 _ i _ _ (by omega))).trans (spl_pc2 _ (a.length - 1 - i) _ _ (by rw [List.length_set]; omega))))) (by repeat (first | exact trivial | refine And.intro (Nat.le_refl _) ?_ | refine And.intro trivial ?_ | refine And.intro (by show _ ≤ _; (first | omega | (simp only [LS, len_pcs] <;> omega))) ?_)) (by repeat (first | exact trivial | refine And.intro (one_ok (.own _ _ _ _ _ (Nat.le_refl _))) ?_ | refine And.intro (okp (by repeat (first | exact pu_pcs _ | exact pu_bytes _ | exact pu_nil | exact pu_vs rfl | exact pu_map (fun _ => .v _) _ | exact pu_vals _ | refine pu_app ?_ ?_ | refine pu_cons (by exact pu_of rfl) ?_))) ?_))
                ·
                  have p17 := c17
                  try simp only [CN] at p17
                  refine WC.exit (h24_ _ ?_)
                  refine WC.seq fun Fh31_ h31_ => ?_
                  have hpm := stR_perm a i hI
                  have hsl2 : (stR a i ++ a).length = a.length + a.length := by rw [List.length_append, stR_len]
                  have q8 := ofM_len (stR a i ++ a)
                  have q9 := ofM_len (ofM a)
                  refine WC.region ?_
                  refine RG.op _ _ rfl rfl (o_move (.own _ _ _ _ _) rfl) ?_
                  refine RG.op _ _ rfl rfl (o_move (.rd _ _) rfl) ?_
                  refine RG.op _ _ rfl rfl (o_appT (Elem.of Try.underlying22 Ty.inf36 rfl (by decide)) rfl rfl rfl (by first | omega | exact ubyte _ | (simp only [LS, len_pcs] <;> omega)) (by first | omega | exact ubyte _ | (simp only [LS, len_pcs] <;> omega)) (by repeat (first | exact bytesD_one _ | exact one_nil | exact one_map (fun _ => rfl) _ | exact one_vals _ | exact one_pcs _ | refine one_app ?_ ?_ | refine one_cons rfl ?_)) (by first | omega | exact ubyte _ | (simp only [LS, len_pcs] <;> omega)) (by first | omega | exact ubyte _ | (simp only [LS, len_pcs] <;> omega))) ?_
                  refine RG.op _ _ rfl rfl (OpD.frzL 0 _ [(165, rdP (stR a i ++ a))] rfl (by repeat (first | exact pu_pcs _ | exact pu_bytes _ | exact pu_nil | exact pu_vs rfl | exact pu_map (fun _ => .v _) _ | exact pu_vals _ | refine pu_app ?_ ?_ | refine pu_cons (by exact pu_of rfl) ?_)) ⟨.rowE rfl hsl2.symm (by simp [List.flatMap_append]), trivial⟩ (o_call Ty.cal16 (Of_c (stR a i ++ a) (by omega)) ⟨.inl rfl, trivial⟩ (by exact pua rfl))) ?_
                  refine RG.op _ _ rfl rfl (o_move (.rd _ _) rfl) ?_
                  refine RG.op _ _ rfl rfl (o_call Ty.cal29 (equal_c _ _ (by first | omega | exact ubyte _ | (simp only [LS, len_pcs] <;> omega)) (by first | omega | exact ubyte _ | (simp only [LS, len_pcs] <;> omega))) ⟨.inl rfl, .inl rfl, trivial⟩ (by exact pua rfl)) ?_
                  refine RG.op _ _ rfl rfl (o_move (.v _) rfl) ?_
                  refine RG.opg1 _ _ _ _ _ rfl rfl rfl rfl rfl (fun hb => o_move (.rd _ _) rfl) ?_
                  refine RG.opg1 _ _ _ _ _ rfl rfl rfl rfl rfl (fun hb => o_call Ty.cal16 (Of_c _ (by first | omega | exact ubyte _ | (have hb' := hb; simp only [CN] at hb'; omega) | (simp only [LS, len_pcs] <;> omega) | (have hb' := hb; simp only [CN] at hb'; simp only [LS, len_pcs]; omega))) ⟨.inl (gdT hb), trivial⟩ (by exact pua rfl)) ?_
                  refine RG.opg1 _ _ _ _ _ rfl rfl rfl rfl rfl (fun hb => o_move (.rd _ _) rfl) ?_
                  refine RG.opg1 _ _ _ _ _ rfl rfl rfl rfl rfl (fun hb => o_call Ty.cal29 (equal_c _ _ (by first | omega | exact ubyte _ | (have hb' := hb; simp only [CN] at hb'; omega) | (simp only [LS, len_pcs] <;> omega) | (have hb' := hb; simp only [CN] at hb'; simp only [LS, len_pcs]; omega)) (by first | omega | exact ubyte _ | (have hb' := hb; simp only [CN] at hb'; omega) | (simp only [LS, len_pcs] <;> omega) | (have hb' := hb; simp only [CN] at hb'; simp only [LS, len_pcs]; omega))) ⟨.inl (gdT hb), .inl (gdT hb), trivial⟩ (by exact pua rfl)) ?_
                  refine RG.op _ _ rfl rfl (o_and _ _ rfl rfl rfl) ?_
                  refine RG.op _ _ rfl rfl (o_move (.v _) rfl) ?_
                  refine RG.opg1 _ _ _ _ _ rfl rfl rfl rfl rfl (fun hb => o_move (.rd _ _) rfl) ?_
                  refine RG.opg1 _ _ _ _ _ rfl rfl rfl rfl rfl (fun hb => o_move (.rd _ _) rfl) ?_
                  refine RG.opg1 _ _ _ _ _ rfl rfl rfl rfl rfl (fun hb => o_call Ty.cal26 (Same_c _ _ (by first | omega | exact ubyte _ | (have hb' := hb; simp only [CN] at hb'; omega) | (simp only [LS, len_pcs] <;> omega) | (have hb' := hb; simp only [CN] at hb'; simp only [LS, len_pcs]; omega)) (by first | omega | exact ubyte _ | (have hb' := hb; simp only [CN] at hb'; omega) | (simp only [LS, len_pcs] <;> omega) | (have hb' := hb; simp only [CN] at hb'; simp only [LS, len_pcs]; omega))) ⟨.inl (gdT hb), .inl (gdT hb), trivial⟩ (by exact pua rfl)) ?_
                  refine RG.op _ _ rfl rfl (o_and _ _ rfl rfl rfl) ?_
                  refine RG.op _ _ rfl rfl (o_move (.v _) rfl) ?_
                  refine RG.opg1 _ _ _ _ _ rfl rfl rfl rfl rfl (fun hb => o_call Ty.cal9 (wakes10_c) trivial (by exact pua rfl)) ?_
                  refine RG.op _ _ rfl rfl (o_and _ _ rfl rfl rfl) ?_
                  refine RG.op _ _ rfl rfl (o_assign (.v _) rfl) ?_
                  refine RG.nil (h31_ _ ?_)
                  refine WC.ret ?_
                  exact Ends.r1 rfl (.tmp _ (.v _) rfl) (.v _) (congrArg Bo (by rw [of_perm hpm, of_of]; simp))
end Go.Proofs.Ytoekdjdgeleelaa
namespace Go.Proofs.Ytoekdjdgeleelaa
open Go.RowKit Go.DL

theorem or_has (a b : List Sp) (t : Int) : hasL (bothM orG a b) t = (hasL a t || hasL b t) := (bothM_ok (g := orG) rfl a b).2 t
theorem and_has (a b : List Sp) (t : Int) : hasL (bothM andG a b) t = (hasL a t && hasL b t) := (bothM_ok (g := andG) rfl a b).2 t
theorem min_has (a b : List Sp) (t : Int) : hasL (bothM minG a b) t = (hasL a t && !hasL b t) := (bothM_ok (g := minG) rfl a b).2 t
theorem or_form (a b : List Sp) : InForm (bothM orG a b) := (bothM_ok (g := orG) rfl a b).1
theorem and_form (a b : List Sp) : InForm (bothM andG a b) := (bothM_ok (g := andG) rfl a b).1
theorem min_form (a b : List Sp) : InForm (bothM minG a b) := (bothM_ok (g := minG) rfl a b).1
theorem set_ext {x y : List Sp} (hx : InForm x) (hy : InForm y) (h : ∀ t, hasL x t = hasL y t) : x = y := (form_eq hx hy).2 h
theorem set_nil {x : List Sp} (hx : InForm x) (h : ∀ t, hasL x t = false) : x = [] := set_ext hx InForm.nil fun t => by rw [h t]; rfl
theorem s1 (a b : List Sp) : bothM orG a b = bothM orG b a := set_ext (or_form _ _) (or_form _ _) fun t => by rw [or_has, or_has, Bool.or_comm]
theorem s2 (a b : List Sp) : bothM andG a b = bothM andG b a := set_ext (and_form _ _) (and_form _ _) fun t => by rw [and_has, and_has, Bool.and_comm]
theorem s3 (a b c : List Sp) : bothM orG (bothM orG a b) c = bothM orG a (bothM orG b c) := set_ext (or_form _ _) (or_form _ _) fun t => by rw [or_has, or_has, or_has, or_has, Bool.or_assoc]
theorem s4 (a b : List Sp) : bothM andG (bothM andG a b) (bothM minG a b) = [] := set_nil (and_form _ _) fun t => by rw [and_has, and_has, min_has]; cases hasL a t <;> cases hasL b t <;> rfl
theorem s5 (a b : List Sp) : bothM orG (bothM andG a b) (bothM minG a b) = ofM a := set_ext (or_form _ _) (ofM_ok a).1 fun t => by rw [or_has, and_has, min_has, of_has]; cases hasL a t <;> cases hasL b t <;> rfl
theorem s6 (a b : List Sp) : bothM andG (bothM minG a b) b = [] := set_nil (and_form _ _) fun t => by rw [and_has, min_has]; cases hasL a t <;> cases hasL b t <;> rfl
theorem s7 (a : List Sp) : bothM minG a a = [] := set_nil (min_form _ _) fun t => by rw [min_has]; cases hasL a t <;> rfl
theorem s8 (a b c : List Sp) : bothM minG a (bothM orG b c) = bothM minG (bothM minG a b) c := set_ext (min_form _ _) (min_form _ _) fun t => by rw [min_has, or_has, min_has, min_has]; cases hasL a t <;> cases hasL b t <;> cases hasL c t <;> rfl
set_option maxRecDepth 20000 in
set_option maxHeartbeats 4000000 in
theorem ssets_c (a : List Sp) (ha : a.length ≤ 9223372036854775807) (b : List Sp) (hb : b.length ≤ 9223372036854775807) (c : List Sp) (hc : c.length ≤ 9223372036854775807) : Fun Try.prog 5 [rdP a, rdP b, rdP c] (· = Bo true) := by
  refine Fun.of Try.func5 rfl (Nat.le_of_ble_eq_true rfl) fun C => ?_
  refine WC.seq fun Fh1_ h1_ => ?_
  refine WC.region ?_
  refine RG.op _ _ rfl rfl (o_assign (.v _) rfl) ?_
  refine RG.nil (h1_ _ ?_)
  refine WC.seq fun Fh2_ h2_ => ?_
  refine WC.seq fun Fh3_ h3_ => ?_
  refine WC.region ?_
  refine RG.op _ _ rfl rfl (o_move (.rd _ _) rfl) ?_
  refine RG.op _ _ rfl rfl (o_move (.rd _ _) rfl) ?_
  refine RG.op _ _ rfl rfl (o_move (.rd _ _) rfl) ?_
  refine RG.op _ _ rfl rfl (o_litP (cs := [rdP a, rdP b, rdP c]) Try.underlying46 Ty.inf22 rfl rfl rfl rfl (pu_cons (by exact pu_of rfl) (pu_cons (by exact pu_of rfl) (pu_cons (by exact pu_of rfl) pu_nil)))) ?_
  refine RG.op _ _ rfl rfl (o_call (ds := [rdPs [a, b, c]]) Ty.cal8 (great_c [a, b, c] (by simp) (by simp; omega)) ⟨.inl rfl, trivial⟩ (by exact pua rfl)) ?_
  refine RG.nil (h3_ _ ?_)
  refine WC.cond _ rfl (fun c1 => ?_) (fun c1 => ?_)
  ·
    have p1 := c1
    try simp only [CN] at p1
    refine WC.seq fun Fh4_ h4_ => ?_
    refine WC.region ?_
    refine RG.op _ _ rfl rfl (o_call Ty.cal9 (wakes10_c) trivial (by exact pua rfl)) ?_
    refine RG.op _ _ rfl rfl (o_assign (.v _) rfl) ?_
    refine RG.nil (h4_ _ ?_)
    refine WC.ret ?_
    exact Ends.r1 rfl (.tmp _ (.v _) rfl) (.v _) (rfl)
  ·
    have p1 := c1
    try simp only [CN] at p1
    have hg := great_no c1
    have ha40 := hg a (by simp)
    have hb40 := hg b (by simp)
    have hc40 := hg c (by simp)
    have q1 := bothM_len orG a b
    have q2 := bothM_len orG b a
    have q3 := bothM_len andG a b
    have q4 := bothM_len andG b a
    have q5 := bothM_len minG a b
    have q6 := bothM_len orG b c
    have q7 := bothM_len orG (bothM orG a b) c
    have q8 := bothM_len orG a (bothM orG b c)
    have q9 := bothM_len andG (bothM andG a b) (bothM minG a b)
    have q10 := bothM_len orG (bothM andG a b) (bothM minG a b)
    have q11 := bothM_len andG (bothM minG a b) b
    have q12 := bothM_len minG a a
    have q13 := bothM_len minG a (bothM orG b c)
    have q14 := bothM_len minG (bothM minG a b) c
    have q15 := ofM_len a
    refine WC.skip (h2_ _ ?_)
    refine WC.seq fun Fh5_ h5_ => ?_
    refine WC.seq fun Fh6_ h6_ => ?_
    refine WC.region ?_
    refine RG.op _ _ rfl rfl (o_move (.rd _ _) rfl) ?_
    refine RG.op _ _ rfl rfl (o_call Ty.cal10 (own_c _ (by first | omega | exact ubyte _ | (simp only [LS, len_pcs] <;> omega))) ⟨.inl rfl, trivial⟩ (by exact pua rfl)) ?_
    refine RG.op _ _ rfl rfl (o_move (.rd _ _) rfl) ?_
    refine RG.op _ _ rfl rfl (o_call Ty.cal10 (own_c _ (by first | omega | exact ubyte _ | (simp only [LS, len_pcs] <;> omega))) ⟨.inl rfl, trivial⟩ (by exact pua rfl)) ?_
    refine RG.op _ _ rfl rfl (o_call Ty.cal18 (Or_c _ _ (by first | omega | exact ubyte _ | (simp only [LS, len_pcs] <;> omega)) (by first | omega | exact ubyte _ | (simp only [LS, len_pcs] <;> omega))) ⟨.inl rfl, .inl rfl, trivial⟩ (by exact pua rfl)) ?_
    refine RG.op _ _ rfl rfl (o_move (.rd _ _) rfl) ?_
    refine RG.op _ _ rfl rfl (o_call Ty.cal10 (own_c _ (by first | omega | exact ubyte _ | (simp only [LS, len_pcs] <;> omega))) ⟨.inl rfl, trivial⟩ (by exact pua rfl)) ?_
    refine RG.op _ _ rfl rfl (o_move (.rd _ _) rfl) ?_
    refine RG.op _ _ rfl rfl (o_call Ty.cal10 (own_c _ (by first | omega | exact ubyte _ | (simp only [LS, len_pcs] <;> omega))) ⟨.inl rfl, trivial⟩ (by exact pua rfl)) ?_
    refine RG.op _ _ rfl rfl (o_call Ty.cal18 (Or_c _ _ (by first | omega | exact ubyte _ | (simp only [LS, len_pcs] <;> omega)) (by first | omega | exact ubyte _ | (simp only [LS, len_pcs] <;> omega))) ⟨.inl rfl, .inl rfl, trivial⟩ (by exact pua rfl)) ?_
    refine RG.op _ _ rfl rfl (o_call Ty.cal29 (equal_c _ _ (by first | omega | exact ubyte _ | (simp only [LS, len_pcs] <;> omega)) (by first | omega | exact ubyte _ | (simp only [LS, len_pcs] <;> omega))) ⟨.inl rfl, .inl rfl, trivial⟩ (by exact pua rfl)) ?_
    refine RG.op _ _ rfl rfl (o_not rfl) ?_
    refine RG.op _ _ rfl rfl (o_move (.v _) rfl) ?_
    refine RG.opg1 _ _ _ _ _ rfl rfl rfl rfl rfl (fun hb => o_move (.rd _ _) rfl) ?_
    refine RG.opg1 _ _ _ _ _ rfl rfl rfl rfl rfl (fun hb => o_call Ty.cal10 (own_c _ (by first | omega | exact ubyte _ | (have hb' := hb; simp only [CN] at hb'; omega) | (simp only [LS, len_pcs] <;> omega) | (have hb' := hb; simp only [CN] at hb'; simp only [LS, len_pcs]; omega))) ⟨.inl (gdT hb), trivial⟩ (by exact pua rfl)) ?_
    refine RG.opg1 _ _ _ _ _ rfl rfl rfl rfl rfl (fun hb => o_move (.rd _ _) rfl) ?_
    refine RG.opg1 _ _ _ _ _ rfl rfl rfl rfl rfl (fun hb => o_call Ty.cal10 (own_c _ (by first | omega | exact ubyte _ | (have hb' := hb; simp only [CN] at hb'; omega) | (simp only [LS, len_pcs] <;> omega) | (have hb' := hb; simp only [CN] at hb'; simp only [LS, len_pcs]; omega))) ⟨.inl (gdT hb), trivial⟩ (by exact pua rfl)) ?_
    refine RG.opg1 _ _ _ _ _ rfl rfl rfl rfl rfl (fun hb => o_call Ty.cal20 (And_c _ _ (by first | omega | exact ubyte _ | (have hb' := hb; simp only [CN] at hb'; omega) | (simp only [LS, len_pcs] <;> omega) | (have hb' := hb; simp only [CN] at hb'; simp only [LS, len_pcs]; omega)) (by first | omega | exact ubyte _ | (have hb' := hb; simp only [CN] at hb'; omega) | (simp only [LS, len_pcs] <;> omega) | (have hb' := hb; simp only [CN] at hb'; simp only [LS, len_pcs]; omega))) ⟨.inl (gdT hb), .inl (gdT hb), trivial⟩ (by exact pua rfl)) ?_
    refine RG.opg1 _ _ _ _ _ rfl rfl rfl rfl rfl (fun hb => o_move (.rd _ _) rfl) ?_
    refine RG.opg1 _ _ _ _ _ rfl rfl rfl rfl rfl (fun hb => o_call Ty.cal10 (own_c _ (by first | omega | exact ubyte _ | (have hb' := hb; simp only [CN] at hb'; omega) | (simp only [LS, len_pcs] <;> omega) | (have hb' := hb; simp only [CN] at hb'; simp only [LS, len_pcs]; omega))) ⟨.inl (gdT hb), trivial⟩ (by exact pua rfl)) ?_
    refine RG.opg1 _ _ _ _ _ rfl rfl rfl rfl rfl (fun hb => o_move (.rd _ _) rfl) ?_
    refine RG.opg1 _ _ _ _ _ rfl rfl rfl rfl rfl (fun hb => o_call Ty.cal10 (own_c _ (by first | omega | exact ubyte _ | (have hb' := hb; simp only [CN] at hb'; omega) | (simp only [LS, len_pcs] <;> omega) | (have hb' := hb; simp only [CN] at hb'; simp only [LS, len_pcs]; omega))) ⟨.inl (gdT hb), trivial⟩ (by exact pua rfl)) ?_
    refine RG.opg1 _ _ _ _ _ rfl rfl rfl rfl rfl (fun hb => o_call Ty.cal20 (And_c _ _ (by first | omega | exact ubyte _ | (have hb' := hb; simp only [CN] at hb'; omega) | (simp only [LS, len_pcs] <;> omega) | (have hb' := hb; simp only [CN] at hb'; simp only [LS, len_pcs]; omega)) (by first | omega | exact ubyte _ | (have hb' := hb; simp only [CN] at hb'; omega) | (simp only [LS, len_pcs] <;> omega) | (have hb' := hb; simp only [CN] at hb'; simp only [LS, len_pcs]; omega))) ⟨.inl (gdT hb), .inl (gdT hb), trivial⟩ (by exact pua rfl)) ?_
    refine RG.opg1 _ _ _ _ _ rfl rfl rfl rfl rfl (fun hb => o_call Ty.cal29 (equal_c _ _ (by first | omega | exact ubyte _ | (have hb' := hb; simp only [CN] at hb'; omega) | (simp only [LS, len_pcs] <;> omega) | (have hb' := hb; simp only [CN] at hb'; simp only [LS, len_pcs]; omega)) (by first | omega | exact ubyte _ | (have hb' := hb; simp only [CN] at hb'; omega) | (simp only [LS, len_pcs] <;> omega) | (have hb' := hb; simp only [CN] at hb'; simp only [LS, len_pcs]; omega))) ⟨.inl (gdT hb), .inl (gdT hb), trivial⟩ (by exact pua rfl)) ?_
    refine RG.opg1 _ _ _ _ _ rfl rfl rfl rfl rfl (fun hb => o_not (gdT hb)) ?_
    refine RG.op _ _ rfl rfl (o_or _ _ rfl rfl rfl) ?_
    refine RG.op _ _ rfl rfl (o_move (.v _) rfl) ?_
    refine RG.opg1 _ _ _ _ _ rfl rfl rfl rfl rfl (fun hb => o_move (.rd _ _) rfl) ?_
    refine RG.opg1 _ _ _ _ _ rfl rfl rfl rfl rfl (fun hb => o_call Ty.cal10 (own_c _ (by first | omega | exact ubyte _ | (have hb' := hb; simp only [CN] at hb'; omega) | (simp only [LS, len_pcs] <;> omega) | (have hb' := hb; simp only [CN] at hb'; simp only [LS, len_pcs]; omega))) ⟨.inl (gdT hb), trivial⟩ (by exact pua rfl)) ?_
    refine RG.opg1 _ _ _ _ _ rfl rfl rfl rfl rfl (fun hb => o_move (.rd _ _) rfl) ?_
    refine RG.opg1 _ _ _ _ _ rfl rfl rfl rfl rfl (fun hb => o_call Ty.cal10 (own_c _ (by first | omega | exact ubyte _ | (have hb' := hb; simp only [CN] at hb'; omega) | (simp only [LS, len_pcs] <;> omega) | (have hb' := hb; simp only [CN] at hb'; simp only [LS, len_pcs]; omega))) ⟨.inl (gdT hb), trivial⟩ (by exact pua rfl)) ?_
    refine RG.opg1 _ _ _ _ _ rfl rfl rfl rfl rfl (fun hb => o_call Ty.cal18 (Or_c _ _ (by first | omega | exact ubyte _ | (have hb' := hb; simp only [CN] at hb'; omega) | (simp only [LS, len_pcs] <;> omega) | (have hb' := hb; simp only [CN] at hb'; simp only [LS, len_pcs]; omega)) (by first | omega | exact ubyte _ | (have hb' := hb; simp only [CN] at hb'; omega) | (simp only [LS, len_pcs] <;> omega) | (have hb' := hb; simp only [CN] at hb'; simp only [LS, len_pcs]; omega))) ⟨.inl (gdT hb), .inl (gdT hb), trivial⟩ (by exact pua rfl)) ?_
    refine RG.opg1 _ _ _ _ _ rfl rfl rfl rfl rfl (fun hb => o_move (.rd _ _) rfl) ?_
    refine RG.opg1 _ _ _ _ _ rfl rfl rfl rfl rfl (fun hb => o_call Ty.cal10 (own_c _ (by first | omega | exact ubyte _ | (have hb' := hb; simp only [CN] at hb'; omega) | (simp only [LS, len_pcs] <;> omega) | (have hb' := hb; simp only [CN] at hb'; simp only [LS, len_pcs]; omega))) ⟨.inl (gdT hb), trivial⟩ (by exact pua rfl)) ?_
    refine RG.opg1 _ _ _ _ _ rfl rfl rfl rfl rfl (fun hb => o_call Ty.cal18 (Or_c _ _ (by first | omega | exact ubyte _ | (have hb' := hb; simp only [CN] at hb'; omega) | (simp only [LS, len_pcs] <;> omega) | (have hb' := hb; simp only [CN] at hb'; simp only [LS, len_pcs]; omega)) (by first | omega | exact ubyte _ | (have hb' := hb; simp only [CN] at hb'; omega) | (simp only [LS, len_pcs] <;> omega) | (have hb' := hb; simp only [CN] at hb'; simp only [LS, len_pcs]; omega))) ⟨.inl (gdT hb), .inl (gdT hb), trivial⟩ (by exact pua rfl)) ?_
    refine RG.opg1 _ _ _ _ _ rfl rfl rfl rfl rfl (fun hb => o_move (.rd _ _) rfl) ?_
    refine RG.opg1 _ _ _ _ _ rfl rfl rfl rfl rfl (fun hb => o_call Ty.cal10 (own_c _ (by first | omega | exact ubyte _ | (have hb' := hb; simp only [CN] at hb'; omega) | (simp only [LS, len_pcs] <;> omega) | (have hb' := hb; simp only [CN] at hb'; simp only [LS, len_pcs]; omega))) ⟨.inl (gdT hb), trivial⟩ (by exact pua rfl)) ?_
    refine RG.opg1 _ _ _ _ _ rfl rfl rfl rfl rfl (fun hb => o_move (.rd _ _) rfl) ?_
    refine RG.opg1 _ _ _ _ _ rfl rfl rfl rfl rfl (fun hb => o_call Ty.cal10 (own_c _ (by first | omega | exact ubyte _ | (have hb' := hb; simp only [CN] at hb'; omega) | (simp only [LS, len_pcs] <;> omega) | (have hb' := hb; simp only [CN] at hb'; simp only [LS, len_pcs]; omega))) ⟨.inl (gdT hb), trivial⟩ (by exact pua rfl)) ?_
    refine RG.opg1 _ _ _ _ _ rfl rfl rfl rfl rfl (fun hb => o_move (.rd _ _) rfl) ?_
    refine RG.opg1 _ _ _ _ _ rfl rfl rfl rfl rfl (fun hb => o_call Ty.cal10 (own_c _ (by first | omega | exact ubyte _ | (have hb' := hb; simp only [CN] at hb'; omega) | (simp only [LS, len_pcs] <;> omega) | (have hb' := hb; simp only [CN] at hb'; simp only [LS, len_pcs]; omega))) ⟨.inl (gdT hb), trivial⟩ (by exact pua rfl)) ?_
    refine RG.opg1 _ _ _ _ _ rfl rfl rfl rfl rfl (fun hb => o_call Ty.cal18 (Or_c _ _ (by first | omega | exact ubyte _ | (have hb' := hb; simp only [CN] at hb'; omega) | (simp only [LS, len_pcs] <;> omega) | (have hb' := hb; simp only [CN] at hb'; simp only [LS, len_pcs]; omega)) (by first | omega | exact ubyte _ | (have hb' := hb; simp only [CN] at hb'; omega) | (simp only [LS, len_pcs] <;> omega) | (have hb' := hb; simp only [CN] at hb'; simp only [LS, len_pcs]; omega))) ⟨.inl (gdT hb), .inl (gdT hb), trivial⟩ (by exact pua rfl)) ?_
    refine RG.opg1 _ _ _ _ _ rfl rfl rfl rfl rfl (fun hb => o_call Ty.cal18 (Or_c _ _ (by first | omega | exact ubyte _ | (have hb' := hb; simp only [CN] at hb'; omega) | (simp only [LS, len_pcs] <;> omega) | (have hb' := hb; simp only [CN] at hb'; simp only [LS, len_pcs]; omega)) (by first | omega | exact ubyte _ | (have hb' := hb; simp only [CN] at hb'; omega) | (simp only [LS, len_pcs] <;> omega) | (have hb' := hb; simp only [CN] at hb'; simp only [LS, len_pcs]; omega))) ⟨.inl (gdT hb), .inl (gdT hb), trivial⟩ (by exact pua rfl)) ?_
    refine RG.opg1 _ _ _ _ _ rfl rfl rfl rfl rfl (fun hb => o_call Ty.cal29 (equal_c _ _ (by first | omega | exact ubyte _ | (have hb' := hb; simp only [CN] at hb'; omega) | (simp only [LS, len_pcs] <;> omega) | (have hb' := hb; simp only [CN] at hb'; simp only [LS, len_pcs]; omega)) (by first | omega | exact ubyte _ | (have hb' := hb; simp only [CN] at hb'; omega) | (simp only [LS, len_pcs] <;> omega) | (have hb' := hb; simp only [CN] at hb'; simp only [LS, len_pcs]; omega))) ⟨.inl (gdT hb), .inl (gdT hb), trivial⟩ (by exact pua rfl)) ?_
    refine RG.opg1 _ _ _ _ _ rfl rfl rfl rfl rfl (fun hb => o_not (gdT hb)) ?_
    refine RG.op _ _ rfl rfl (o_or _ _ rfl rfl rfl) ?_
    refine RG.nil (h6_ _ ?_)
    refine WC.cond _ rfl (fun c3 => ?_) (fun c3 => ?_)
    ·
      (exfalso; rw [s1 a b, s2 a b, ← s1 a b, ← s3 a b c] at c3; simp at c3)
    ·
      refine WC.skip (h5_ _ ?_)
      refine WC.seq fun Fh7_ h7_ => ?_
      refine WC.region ?_
      refine RG.op _ _ rfl rfl (o_move (.rd _ _) rfl) ?_
      refine RG.op _ _ rfl rfl (o_call Ty.cal10 (own_c _ (by first | omega | exact ubyte _ | (simp only [LS, len_pcs] <;> omega))) ⟨.inl rfl, trivial⟩ (by exact pua rfl)) ?_
      refine RG.op _ _ rfl rfl (o_move (.rd _ _) rfl) ?_
      refine RG.op _ _ rfl rfl (o_call Ty.cal10 (own_c _ (by first | omega | exact ubyte _ | (simp only [LS, len_pcs] <;> omega))) ⟨.inl rfl, trivial⟩ (by exact pua rfl)) ?_
      refine RG.op _ _ rfl rfl (o_call Ty.cal20 (And_c _ _ (by first | omega | exact ubyte _ | (simp only [LS, len_pcs] <;> omega)) (by first | omega | exact ubyte _ | (simp only [LS, len_pcs] <;> omega))) ⟨.inl rfl, .inl rfl, trivial⟩ (by exact pua rfl)) ?_
      refine RG.op _ _ rfl rfl (o_move (.rd _ _) rfl) ?_
      refine RG.op _ _ rfl rfl (o_call Ty.cal10 (own_c _ (by first | omega | exact ubyte _ | (simp only [LS, len_pcs] <;> omega))) ⟨.inl rfl, trivial⟩ (by exact pua rfl)) ?_
      refine RG.op _ _ rfl rfl (o_move (.rd _ _) rfl) ?_
      refine RG.op _ _ rfl rfl (o_call Ty.cal10 (own_c _ (by first | omega | exact ubyte _ | (simp only [LS, len_pcs] <;> omega))) ⟨.inl rfl, trivial⟩ (by exact pua rfl)) ?_
      refine RG.op _ _ rfl rfl (o_call Ty.cal22 (Minus_c _ _ (by first | omega | exact ubyte _ | (simp only [LS, len_pcs] <;> omega)) (by first | omega | exact ubyte _ | (simp only [LS, len_pcs] <;> omega))) ⟨.inl rfl, .inl rfl, trivial⟩ (by exact pua rfl)) ?_
      refine RG.op _ _ rfl rfl (o_assign (.rd _ _) rfl) ?_
      refine RG.op _ _ rfl rfl (o_assign (.rd _ _) rfl) ?_
      refine RG.nil (h7_ _ ?_)
      refine WC.seq fun Fh8_ h8_ => ?_
      refine WC.seq fun Fh9_ h9_ => ?_
      refine WC.region ?_
      refine RG.op _ _ rfl rfl (o_move (.rd _ _) rfl) ?_
      refine RG.op _ _ rfl rfl (o_move (.rd _ _) rfl) ?_
      refine RG.op _ _ rfl rfl (o_call Ty.cal20 (And_c _ _ (by first | omega | exact ubyte _ | (simp only [LS, len_pcs] <;> omega)) (by first | omega | exact ubyte _ | (simp only [LS, len_pcs] <;> omega))) ⟨.inl rfl, .inl rfl, trivial⟩ (by exact pua rfl)) ?_
      refine RG.op _ _ rfl rfl (o_len_rd rfl Try.underlying22) ?_
      refine RG.op _ _ rfl rfl (o_neI rfl rfl) ?_
      refine RG.op _ _ rfl rfl (o_move (.v _) rfl) ?_
      refine RG.opg1 _ _ _ _ _ rfl rfl rfl rfl rfl (fun hb => o_move (.rd _ _) rfl) ?_
      refine RG.opg1 _ _ _ _ _ rfl rfl rfl rfl rfl (fun hb => o_move (.rd _ _) rfl) ?_
      refine RG.opg1 _ _ _ _ _ rfl rfl rfl rfl rfl (fun hb => o_call Ty.cal18 (Or_c _ _ (by first | omega | exact ubyte _ | (have hb' := hb; simp only [CN] at hb'; omega) | (simp only [LS, len_pcs] <;> omega) | (have hb' := hb; simp only [CN] at hb'; simp only [LS, len_pcs]; omega)) (by first | omega | exact ubyte _ | (have hb' := hb; simp only [CN] at hb'; omega) | (simp only [LS, len_pcs] <;> omega) | (have hb' := hb; simp only [CN] at hb'; simp only [LS, len_pcs]; omega))) ⟨.inl (gdT hb), .inl (gdT hb), trivial⟩ (by exact pua rfl)) ?_
      refine RG.opg1 _ _ _ _ _ rfl rfl rfl rfl rfl (fun hb => o_move (.rd _ _) rfl) ?_
      refine RG.opg1 _ _ _ _ _ rfl rfl rfl rfl rfl (fun hb => o_call Ty.cal16 (Of_c _ (by first | omega | exact ubyte _ | (have hb' := hb; simp only [CN] at hb'; omega) | (simp only [LS, len_pcs] <;> omega) | (have hb' := hb; simp only [CN] at hb'; simp only [LS, len_pcs]; omega))) ⟨.inl (gdT hb), trivial⟩ (by exact pua rfl)) ?_
      refine RG.opg1 _ _ _ _ _ rfl rfl rfl rfl rfl (fun hb => o_call Ty.cal29 (equal_c _ _ (by first | omega | exact ubyte _ | (have hb' := hb; simp only [CN] at hb'; omega) | (simp only [LS, len_pcs] <;> omega) | (have hb' := hb; simp only [CN] at hb'; simp only [LS, len_pcs]; omega)) (by first | omega | exact ubyte _ | (have hb' := hb; simp only [CN] at hb'; omega) | (simp only [LS, len_pcs] <;> omega) | (have hb' := hb; simp only [CN] at hb'; simp only [LS, len_pcs]; omega))) ⟨.inl (gdT hb), .inl (gdT hb), trivial⟩ (by exact pua rfl)) ?_
      refine RG.opg1 _ _ _ _ _ rfl rfl rfl rfl rfl (fun hb => o_not (gdT hb)) ?_
      refine RG.op _ _ rfl rfl (o_or _ _ rfl rfl rfl) ?_
      refine RG.op _ _ rfl rfl (o_move (.v _) rfl) ?_
      refine RG.opg1 _ _ _ _ _ rfl rfl rfl rfl rfl (fun hb => o_move (.rd _ _) rfl) ?_
      refine RG.opg1 _ _ _ _ _ rfl rfl rfl rfl rfl (fun hb => o_move (.rd _ _) rfl) ?_
      refine RG.opg1 _ _ _ _ _ rfl rfl rfl rfl rfl (fun hb => o_call Ty.cal10 (own_c _ (by first | omega | exact ubyte _ | (have hb' := hb; simp only [CN] at hb'; omega) | (simp only [LS, len_pcs] <;> omega) | (have hb' := hb; simp only [CN] at hb'; simp only [LS, len_pcs]; omega))) ⟨.inl (gdT hb), trivial⟩ (by exact pua rfl)) ?_
      refine RG.opg1 _ _ _ _ _ rfl rfl rfl rfl rfl (fun hb => o_call Ty.cal20 (And_c _ _ (by first | omega | exact ubyte _ | (have hb' := hb; simp only [CN] at hb'; omega) | (simp only [LS, len_pcs] <;> omega) | (have hb' := hb; simp only [CN] at hb'; simp only [LS, len_pcs]; omega)) (by first | omega | exact ubyte _ | (have hb' := hb; simp only [CN] at hb'; omega) | (simp only [LS, len_pcs] <;> omega) | (have hb' := hb; simp only [CN] at hb'; simp only [LS, len_pcs]; omega))) ⟨.inl (gdT hb), .inl (gdT hb), trivial⟩ (by exact pua rfl)) ?_
      refine RG.opg1 _ _ _ _ _ rfl rfl rfl rfl rfl (fun hb => o_len_rd (gdT hb) Try.underlying22) ?_
      refine RG.opg1 _ _ _ _ _ rfl rfl rfl rfl rfl (fun hb => o_neI (gdT hb) rfl) ?_
      refine RG.op _ _ rfl rfl (o_or _ _ rfl rfl rfl) ?_
      refine RG.op _ _ rfl rfl (o_move (.v _) rfl) ?_
      refine RG.opg1 _ _ _ _ _ rfl rfl rfl rfl rfl (fun hb => o_move (.rd _ _) rfl) ?_
      refine RG.opg1 _ _ _ _ _ rfl rfl rfl rfl rfl (fun hb => o_call Ty.cal10 (own_c _ (by first | omega | exact ubyte _ | (have hb' := hb; simp only [CN] at hb'; omega) | (simp only [LS, len_pcs] <;> omega) | (have hb' := hb; simp only [CN] at hb'; simp only [LS, len_pcs]; omega))) ⟨.inl (gdT hb), trivial⟩ (by exact pua rfl)) ?_
      refine RG.opg1 _ _ _ _ _ rfl rfl rfl rfl rfl (fun hb => o_move (.rd _ _) rfl) ?_
      refine RG.opg1 _ _ _ _ _ rfl rfl rfl rfl rfl (fun hb => o_call Ty.cal10 (own_c _ (by first | omega | exact ubyte _ | (have hb' := hb; simp only [CN] at hb'; omega) | (simp only [LS, len_pcs] <;> omega) | (have hb' := hb; simp only [CN] at hb'; simp only [LS, len_pcs]; omega))) ⟨.inl (gdT hb), trivial⟩ (by exact pua rfl)) ?_
      refine RG.opg1 _ _ _ _ _ rfl rfl rfl rfl rfl (fun hb => o_call Ty.cal22 (Minus_c _ _ (by first | omega | exact ubyte _ | (have hb' := hb; simp only [CN] at hb'; omega) | (simp only [LS, len_pcs] <;> omega) | (have hb' := hb; simp only [CN] at hb'; simp only [LS, len_pcs]; omega)) (by first | omega | exact ubyte _ | (have hb' := hb; simp only [CN] at hb'; omega) | (simp only [LS, len_pcs] <;> omega) | (have hb' := hb; simp only [CN] at hb'; simp only [LS, len_pcs]; omega))) ⟨.inl (gdT hb), .inl (gdT hb), trivial⟩ (by exact pua rfl)) ?_
      refine RG.opg1 _ _ _ _ _ rfl rfl rfl rfl rfl (fun hb => o_len_rd (gdT hb) Try.underlying22) ?_
      refine RG.opg1 _ _ _ _ _ rfl rfl rfl rfl rfl (fun hb => o_neI (gdT hb) rfl) ?_
      refine RG.op _ _ rfl rfl (o_or _ _ rfl rfl rfl) ?_
      refine RG.nil (h9_ _ ?_)
      refine WC.cond _ rfl (fun c6 => ?_) (fun c6 => ?_)
      ·
        (exfalso; revert c6; rw [s4, s5, s6, s7]; simp)
      ·
        refine WC.skip (h8_ _ ?_)
        refine WC.seq fun Fh10_ h10_ => ?_
        refine WC.region ?_
        refine RG.op _ _ rfl rfl (o_move (.rd _ _) rfl) ?_
        refine RG.op _ _ rfl rfl (o_call Ty.cal10 (own_c _ (by first | omega | exact ubyte _ | (simp only [LS, len_pcs] <;> omega))) ⟨.inl rfl, trivial⟩ (by exact pua rfl)) ?_
        refine RG.op _ _ rfl rfl (o_move (.rd _ _) rfl) ?_
        refine RG.op _ _ rfl rfl (o_call Ty.cal10 (own_c _ (by first | omega | exact ubyte _ | (simp only [LS, len_pcs] <;> omega))) ⟨.inl rfl, trivial⟩ (by exact pua rfl)) ?_
        refine RG.op _ _ rfl rfl (o_move (.rd _ _) rfl) ?_
        refine RG.op _ _ rfl rfl (o_call Ty.cal10 (own_c _ (by first | omega | exact ubyte _ | (simp only [LS, len_pcs] <;> omega))) ⟨.inl rfl, trivial⟩ (by exact pua rfl)) ?_
        refine RG.op _ _ rfl rfl (o_call Ty.cal18 (Or_c _ _ (by first | omega | exact ubyte _ | (simp only [LS, len_pcs] <;> omega)) (by first | omega | exact ubyte _ | (simp only [LS, len_pcs] <;> omega))) ⟨.inl rfl, .inl rfl, trivial⟩ (by exact pua rfl)) ?_
        refine RG.op _ _ rfl rfl (o_call Ty.cal22 (Minus_c _ _ (by first | omega | exact ubyte _ | (simp only [LS, len_pcs] <;> omega)) (by first | omega | exact ubyte _ | (simp only [LS, len_pcs] <;> omega))) ⟨.inl rfl, .inl rfl, trivial⟩ (by exact pua rfl)) ?_
        refine RG.op _ _ rfl rfl (o_move (.rd _ _) rfl) ?_
        refine RG.op _ _ rfl rfl (o_call Ty.cal10 (own_c _ (by first | omega | exact ubyte _ | (simp only [LS, len_pcs] <;> omega))) ⟨.inl rfl, trivial⟩ (by exact pua rfl)) ?_
        refine RG.op _ _ rfl rfl (o_move (.rd _ _) rfl) ?_
        refine RG.op _ _ rfl rfl (o_call Ty.cal10 (own_c _ (by first | omega | exact ubyte _ | (simp only [LS, len_pcs] <;> omega))) ⟨.inl rfl, trivial⟩ (by exact pua rfl)) ?_
        refine RG.op _ _ rfl rfl (o_call Ty.cal22 (Minus_c _ _ (by first | omega | exact ubyte _ | (simp only [LS, len_pcs] <;> omega)) (by first | omega | exact ubyte _ | (simp only [LS, len_pcs] <;> omega))) ⟨.inl rfl, .inl rfl, trivial⟩ (by exact pua rfl)) ?_
        refine RG.op _ _ rfl rfl (o_move (.rd _ _) rfl) ?_
        refine RG.op _ _ rfl rfl (o_call Ty.cal10 (own_c _ (by first | omega | exact ubyte _ | (simp only [LS, len_pcs] <;> omega))) ⟨.inl rfl, trivial⟩ (by exact pua rfl)) ?_
        refine RG.op _ _ rfl rfl (o_call Ty.cal22 (Minus_c _ _ (by first | omega | exact ubyte _ | (simp only [LS, len_pcs] <;> omega)) (by first | omega | exact ubyte _ | (simp only [LS, len_pcs] <;> omega))) ⟨.inl rfl, .inl rfl, trivial⟩ (by exact pua rfl)) ?_
        refine RG.op _ _ rfl rfl (o_call Ty.cal29 (equal_c _ _ (by first | omega | exact ubyte _ | (simp only [LS, len_pcs] <;> omega)) (by first | omega | exact ubyte _ | (simp only [LS, len_pcs] <;> omega))) ⟨.inl rfl, .inl rfl, trivial⟩ (by exact pua rfl)) ?_
        refine RG.op _ _ rfl rfl (o_move (.v _) rfl) ?_
        refine RG.opg1 _ _ _ _ _ rfl rfl rfl rfl rfl (fun hb => o_call Ty.cal9 (wakes10_c) trivial (by exact pua rfl)) ?_
        refine RG.op _ _ rfl rfl (o_and _ _ rfl rfl rfl) ?_
        refine RG.op _ _ rfl rfl (o_assign (.v _) rfl) ?_
        refine RG.nil (h10_ _ ?_)
        refine WC.ret ?_
        exact Ends.r1 rfl (.tmp _ (.v _) rfl) (.v _) (congrArg Bo (by rw [s8]; simp))
end Go.Proofs.Ytoekdjdgeleelaa
namespace Go.Proofs.Ytoekdjdgeleelaa
open Go.RowKit Go.DL

theorem rE_iff {n : Int} {l : List Sp} (hw : Wid n) (h : ∀ p ∈ l, p.1 < p.2 → Fit p.1 ∧ Fit p.2) : rE n l = 0 := by
  have hb : l.any badB = false := by
    rw [List.any_eq_false]
    intro p hp
    unfold badB
    by_cases hlt : p.1 < p.2
    · have := h p hp hlt
      rw [fit_iff.2 this.1, fit_iff.2 this.2]; simp
    · rw [decide_eq_false (show ¬ p.2 > p.1 from hlt)]; simp
  unfold rE
  rw [if_pos (wid_iff.2 hw), hb]; rfl
def okT (p : Sp) : Bool := timeB p.1 && timeB p.2
theorem time_iff {t : Int} : timeB t = true ↔ -4611686018427387904 ≤ t ∧ t ≤ 4611686018427387903 := by unfold timeB; simp
theorem okT_iff {p : Sp} : okT p = true ↔ (-4611686018427387904 ≤ p.1 ∧ p.1 ≤ 4611686018427387903) ∧ (-4611686018427387904 ≤ p.2 ∧ p.2 ≤ 4611686018427387903) := by unfold okT; rw [Bool.and_eq_true, time_iff, time_iff]
theorem time_fit {t : Int} (h : -4611686018427387904 ≤ t ∧ t ≤ 4611686018427387903) : Fit t := ⟨by omega, by omega⟩
theorem rE_time {n : Int} {a : List Sp} (hw : Wid n) (h : ∀ p ∈ a, okT p = true) : rE n a = 0 := rE_iff hw fun p hp _ => by
  have := okT_iff.1 (h p hp)
  exact ⟨time_fit this.1, time_fit this.2⟩
theorem rE_form {n : Int} {x : List Sp} (hw : Wid n) (hx : InForm x) (h : ∀ t, Mem10 x t → -4611687117939015680 ≤ t ∧ t < 4611687117939015679) : rE n x = 0 := rE_iff hw fun p hp hlt => by
  have h1 := h p.1 ⟨p, hp, Int.le_refl _, hlt⟩
  have h2 := h (p.2 - 1) ⟨p, hp, by omega, by omega⟩
  exact ⟨⟨by omega, by omega⟩, ⟨by omega, by omega⟩⟩
theorem OutM_form (n : Int) (a : List Sp) : InForm (OutM n a) := by
  unfold OutM; split
  · exact (ofM_ok _).1
  · exact InForm.nil
theorem InM_form (n : Int) (a : List Sp) : InForm (InM n a) := by
  unfold InM; split
  · exact (ofM_ok _).1
  · exact InForm.nil
theorem out_mem {n : Int} {a : List Sp} (h : rE n a = 0) (t : Int) : Mem10 (OutM n a) t ↔ ∃ u, Mem10 a u ∧ floorZ u n = floorZ t n := by
  unfold OutM
  rw [if_pos h, (ofM_ok _).2.1, out_set (rE_ok h).1.1]
theorem in_mem {n : Int} {a : List Sp} (h : rE n a = 0) (t : Int) : Mem10 (InM n a) t ↔ ∀ u, floorZ u n = floorZ t n → Mem10 a u := by
  unfold InM
  rw [if_pos h, (ofM_ok _).2.1, in_set (rE_ok h).1.1 (ofM_ok a).1]
  constructor
  · intro h u hu; exact ((ofM_ok a).2.1 u).1 (h u hu)
  · intro h u hu; exact ((ofM_ok a).2.1 u).2 (h u hu)
theorem mem_times {a : List Sp} (h : ∀ p ∈ a, okT p = true) {u : Int} (hu : Mem10 a u) : -4611686018427387904 ≤ u ∧ u < 4611686018427387903 := by
  obtain ⟨p, hp, h1, h2⟩ := hu
  have := okT_iff.1 (h p hp)
  omega
theorem out_times {n : Int} (hw : Wid n) {a : List Sp} (h : ∀ p ∈ a, okT p = true) {t : Int} (ht : Mem10 (OutM n a) t) : -4611687117939015680 ≤ t ∧ t < 4611687117939015679 := by
  obtain ⟨u, hu, e⟩ := (out_mem (rE_time hw h) t).1 ht
  have h1 := mem_times h hu
  have h2 := fl_le hw.1 u
  have h3 := fl_le hw.1 t
  have := hw.2
  omega
theorem rE_out {n : Int} (hw : Wid n) {a : List Sp} (h : ∀ p ∈ a, okT p = true) : rE n (OutM n a) = 0 := rE_form hw (OutM_form n a) fun _ ht => out_times hw h ht
theorem form_pos {l : List Sp} (h : InForm l) : 0 < l.length ↔ ∃ u, Mem10 l u := by
  cases l with
  | nil => exact ⟨fun h => absurd h (by simp), fun ⟨u, hu⟩ => (Mem10.nil hu).elim⟩
  | cons p l => exact ⟨fun _ => ⟨p.1, p, by simp, Int.le_refl _, h.ne p (by simp)⟩, fun _ => by simp⟩
theorem and_mem (a b : List Sp) (t : Int) : Mem10 (bothM andG a b) t ↔ Mem10 a t ∧ Mem10 b t := by rw [← hasL_iff, and_has, Bool.and_eq_true, hasL_iff, hasL_iff]
theorem or_mem (a b : List Sp) (t : Int) : Mem10 (bothM orG a b) t ↔ Mem10 a t ∨ Mem10 b t := by rw [← hasL_iff, or_has, Bool.or_eq_true, hasL_iff, hasL_iff]
theorem min_mem (a b : List Sp) (t : Int) : Mem10 (bothM minG a b) t ↔ Mem10 a t ∧ ¬ Mem10 b t := by
  rw [← hasL_iff, min_has, Bool.and_eq_true, hasL_iff, Bool.not_eq_true', ← hasL_iff (l := b), Bool.not_eq_true]
theorem buck_mem {n : Int} (hw : Wid n) {t : Int} (he : wrongE n [t] = 0) (u : Int) : Mem10 [(floorE t n, buckE t n)] u ↔ floorZ u n = floorZ t n := by
  have e : (floorE t n, buckE t n) = (floorZ t n, floorZ t n + n) := by unfold floorE buckE; rw [if_pos he, if_pos he]
  rw [e, Mem10.cons]
  have h1 := fl_le hw.1 u
  constructor
  · rintro (⟨h2, h3⟩ | h)
    · exact fl_of hw.1 h2 h3
    · exact (Mem10.nil h).elim
  · intro h
    refine .inl ⟨?_, ?_⟩
    · show floorZ t n ≤ u; omega
    · show u < floorZ t n + n; omega
theorem wrong_time {n t : Int} (hw : Wid n) (ht : Fit t) : wrongE n [t] = 0 := by
  unfold wrongE
  rw [wid_iff.2 hw]
  simp [fit_iff.2 ht]
section
variable {n : Int} (hw : Wid n) {a : List Sp} (h : ∀ p ∈ a, okT p = true)
include hw h
theorem wh1 {t : Int} (he : wrongE n [t] = 0) : hasL (OutM n a) t = decide (((bothM andG a [(floorE t n, buckE t n)]).length : Int) > 0) := by
  rw [Bool.eq_iff_iff, hasL_iff, out_mem (rE_time hw h), decide_eq_true_eq]
  have := form_pos (and_form a [(floorE t n, buckE t n)])
  have e : (((bothM andG a [(floorE t n, buckE t n)]).length : Int) > 0) ↔ 0 < (bothM andG a [(floorE t n, buckE t n)]).length := by omega
  rw [e, this]
  constructor
  · rintro ⟨u, h1, h2⟩; exact ⟨u, (and_mem _ _ _).2 ⟨h1, (buck_mem hw he u).2 h2⟩⟩
  · rintro ⟨u, h1⟩
    have := (and_mem _ _ _).1 h1
    exact ⟨u, this.1, (buck_mem hw he u).1 this.2⟩
theorem wh2 {t : Int} (he : wrongE n [t] = 0) : hasL (InM n a) t = decide (((bothM minG [(floorE t n, buckE t n)] a).length : Int) = 0) := by
  rw [Bool.eq_iff_iff, hasL_iff, in_mem (rE_time hw h), decide_eq_true_eq]
  have := form_pos (min_form [(floorE t n, buckE t n)] a)
  have e : (((bothM minG [(floorE t n, buckE t n)] a).length : Int) = 0) ↔ ¬ 0 < (bothM minG [(floorE t n, buckE t n)] a).length := by omega
  rw [e, this]
  constructor
  · rintro h1 ⟨u, h2⟩
    have := (min_mem _ _ _).1 h2
    exact this.2 (h1 u ((buck_mem hw he u).1 this.1))
  · intro h1 u hu
    rcases Classical.em (Mem10 a u) with h2 | h2
    · exact h2
    · exact (h1 ⟨u, (min_mem _ _ _).2 ⟨(buck_mem hw he u).2 hu, h2⟩⟩).elim
theorem wh3 : bothM minG (InM n a) a = [] := set_nil (min_form _ _) fun t => by
  rw [Bool.eq_false_iff]
  intro hm
  have := (min_mem _ _ _).1 (hasL_iff.1 hm)
  exact this.2 ((in_mem (rE_time hw h) t).1 this.1 t rfl)
theorem wh4 : bothM minG a (OutM n a) = [] := set_nil (min_form _ _) fun t => by
  rw [Bool.eq_false_iff]
  intro hm
  have := (min_mem _ _ _).1 (hasL_iff.1 hm)
  exact this.2 ((out_mem (rE_time hw h) t).2 ⟨t, this.1, rfl⟩)
theorem wh5 : OutM n (OutM n a) = OutM n a := set_ext (OutM_form _ _) (OutM_form _ _) fun t => by
  rw [hasL_ext, out_mem (rE_out hw h), out_mem (rE_time hw h)]
  constructor
  · rintro ⟨u, hu, e⟩
    obtain ⟨v, hv, e2⟩ := (out_mem (rE_time hw h) u).1 hu
    exact ⟨v, hv, e2.trans e⟩
  · rintro ⟨u, hu, e⟩
    exact ⟨u, (out_mem (rE_time hw h) u).2 ⟨u, hu, rfl⟩, e⟩
theorem wh6 : InM n (OutM n a) = OutM n a := set_ext (InM_form _ _) (OutM_form _ _) fun t => by
  rw [hasL_ext, in_mem (rE_out hw h)]
  constructor
  · intro h1; exact h1 t rfl
  · intro h1 u hu
    obtain ⟨v, hv, e⟩ := (out_mem (rE_time hw h) t).1 h1
    exact (out_mem (rE_time hw h) u).2 ⟨v, hv, e.trans hu.symm⟩
end
section
variable {n : Int} (hw : Wid n) {a b : List Sp} (h : ∀ p ∈ a ++ b, okT p = true)
include hw h
omit hw in
theorem al_a : ∀ p ∈ a, okT p = true := fun p hp => h p (by simp [hp])
omit hw in
theorem al_b : ∀ p ∈ b, okT p = true := fun p hp => h p (by simp [hp])
theorem al_or : rE n (bothM orG a b) = 0 := rE_form hw (or_form _ _) fun t ht => by
  rcases (or_mem _ _ _).1 ht with h1 | h1
  · have := mem_times (al_a h) h1; omega
  · have := mem_times (al_b h) h1; omega
theorem al_and : rE n (bothM andG a b) = 0 := rE_form hw (and_form _ _) fun t ht => by
  have := mem_times (al_a h) ((and_mem _ _ _).1 ht).1; omega
theorem al1 : OutM n (bothM orG a b) = bothM orG (OutM n a) (OutM n b) := set_ext (OutM_form _ _) (or_form _ _) fun t => by
  rw [hasL_ext, out_mem (al_or hw h), or_mem, out_mem (rE_time hw (al_a h)), out_mem (rE_time hw (al_b h))]
  constructor
  · rintro ⟨u, hu, e⟩
    rcases (or_mem _ _ _).1 hu with h1 | h1
    · exact .inl ⟨u, h1, e⟩
    · exact .inr ⟨u, h1, e⟩
  · rintro (⟨u, hu, e⟩ | ⟨u, hu, e⟩)
    · exact ⟨u, (or_mem _ _ _).2 (.inl hu), e⟩
    · exact ⟨u, (or_mem _ _ _).2 (.inr hu), e⟩
theorem al2 : InM n (bothM andG a b) = bothM andG (InM n a) (InM n b) := set_ext (InM_form _ _) (and_form _ _) fun t => by
  rw [hasL_ext, in_mem (al_and hw h), and_mem, in_mem (rE_time hw (al_a h)), in_mem (rE_time hw (al_b h))]
  constructor
  · intro h1
    exact ⟨fun u hu => ((and_mem _ _ _).1 (h1 u hu)).1, fun u hu => ((and_mem _ _ _).1 (h1 u hu)).2⟩
  · rintro ⟨h1, h2⟩ u hu
    exact (and_mem _ _ _).2 ⟨h1 u hu, h2 u hu⟩
end
def allS (n : Int) : Sp := (floorE (-4611686018427387904) n, ceilE 4611686018427387903 n)
theorem all_is {n : Int} (hw : Wid n) : allS n = (floorZ (-4611686018427387904) n, ceilZ 4611686018427387903 n) := by
  unfold allS floorE ceilE
  rw [if_pos (wrong_time hw ⟨by omega, by omega⟩), if_pos (wrong_time hw ⟨by omega, by omega⟩)]
theorem ceil_fl {n : Int} (hn : 1 ≤ n) (t : Int) : floorZ (ceilZ t n) n = ceilZ t n := by
  unfold ceilZ; split
  · exact fl_next hn t
  · exact fl_fl hn t
theorem all_mem {n : Int} (hw : Wid n) {t u : Int} (e : floorZ u n = floorZ t n) : Mem10 [allS n] t → Mem10 [allS n] u := by
  rw [all_is hw, Mem10.cons, Mem10.cons]
  rintro (⟨h1, h2⟩ | h)
  · have h1 : floorZ (-4611686018427387904) n ≤ t := h1
    have h2 : t < ceilZ 4611686018427387903 n := h2
    have a := fl_le hw.1 u
    have b := fl_le hw.1 t
    have m := fl_mono hw.1 h1
    rw [fl_fl hw.1] at m
    have m2 : floorZ t n < floorZ (ceilZ 4611686018427387903 n) n := by rw [ceil_fl hw.1]; omega
    have m3 := fl_gap hw.1 m2
    rw [ceil_fl hw.1] at m3
    refine .inl ⟨?_, ?_⟩
    · show floorZ (-4611686018427387904) n ≤ u; omega
    · show u < ceilZ 4611686018427387903 n; omega
  · exact (Mem10.nil h).elim
theorem all_times {n : Int} (hw : Wid n) {t : Int} : Mem10 [allS n] t → -4611687117939015680 ≤ t ∧ t < 4611687117939015679 := by
  rw [all_is hw, Mem10.cons]
  rintro (⟨h1, h2⟩ | h)
  · have h1 : floorZ (-4611686018427387904) n ≤ t := h1
    have h2 : t < ceilZ 4611686018427387903 n := h2
    have a := fl_le hw.1 (-4611686018427387904)
    have b := fl_le hw.1 4611686018427387903
    have := hw.2
    unfold ceilZ at h2
    split at h2 <;> omega
  · exact (Mem10.nil h).elim
theorem al_min {n : Int} (hw : Wid n) (a : List Sp) : rE n (bothM minG [allS n] a) = 0 := rE_form hw (min_form _ _) fun _ ht => all_times hw ((min_mem _ _ _).1 ht).1
theorem al3 {n : Int} (hw : Wid n) {a : List Sp} (h : ∀ p ∈ a, okT p = true) : InM n (bothM minG [allS n] a) = bothM minG [allS n] (OutM n a) := set_ext (InM_form _ _) (min_form _ _) fun t => by
  rw [hasL_ext, in_mem (al_min hw a), min_mem, out_mem (rE_time hw h)]
  constructor
  · intro h1
    refine ⟨((min_mem _ _ _).1 (h1 t rfl)).1, ?_⟩
    rintro ⟨u, hu, e⟩
    exact ((min_mem _ _ _).1 (h1 u e)).2 hu
  · rintro ⟨h1, h2⟩ u hu
    exact (min_mem _ _ _).2 ⟨all_mem hw hu h1, fun h3 => h2 ⟨u, h3, hu⟩⟩
end Go.Proofs.Ytoekdjdgeleelaa
namespace Go.Proofs.Ytoekdjdgeleelaa
open Go.RowKit Go.DL

theorem okT_stop {a : List Sp} {k : Nat} (hI : ∀ i, i < k → okT (a.getD i (0, 0)) = true) (hk : a.length ≤ k) : ∀ p ∈ a, okT p = true := fun p hp => by
  obtain ⟨i, hi, rfl⟩ := List.getElem_of_mem hp
  have := hI i (by omega)
  rwa [getD_is hi] at this
theorem okT_next {a : List Sp} {k : Nat} (hI : ∀ i, i < k → okT (a.getD i (0, 0)) = true) (c : (!timeB (a.getD k (0, 0)).1 || !timeB (a.getD k (0, 0)).2) = false) : ∀ i, i < k + 1 → okT (a.getD i (0, 0)) = true := fun i hi => by
  by_cases e : i = k
  · subst e
    unfold okT
    rw [Bool.or_eq_false_iff, Bool.not_eq_false', Bool.not_eq_false'] at c
    rw [c.1, c.2]; rfl
  · exact hI i (by omega)
set_option maxRecDepth 20000 in
set_option maxHeartbeats 4000000 in
theorem swhole_c (a : List Sp) (ha : a.length ≤ 9223372036854775807) (n : Int) (hn : -9223372036854775808 ≤ n ∧ n ≤ 9223372036854775807) (t : Int) (ht : -9223372036854775808 ≤ t ∧ t ≤ 9223372036854775807) : Fun Try.prog 6 [rdP a, I64 n, I64 t] (· = Bo true) := by
  refine Fun.of Try.func6 rfl (Nat.le_of_ble_eq_true rfl) fun C => ?_
  refine WC.seq fun Fh1_ h1_ => ?_
  refine WC.region ?_
  refine RG.op _ _ rfl rfl (o_assign (.v _) rfl) ?_
  refine RG.nil (h1_ _ ?_)
  refine WC.seq fun Fh2_ h2_ => ?_
  refine WC.seq fun Fh3_ h3_ => ?_
  refine WC.region ?_
  refine RG.op _ _ rfl rfl (o_move (.rd _ _) rfl) ?_
  refine RG.op _ _ rfl rfl (o_litP (cs := [rdP a]) Try.underlying46 Ty.inf22 rfl rfl rfl rfl (pu_cons (by exact pu_of rfl) pu_nil)) ?_
  refine RG.op _ _ rfl rfl (o_call (ds := [rdPs [a]]) Ty.cal8 (great_c [a] (by simp) (by simp; omega)) ⟨.inl rfl, trivial⟩ (by exact pua rfl)) ?_
  refine RG.op _ _ rfl rfl (o_move (.v _) rfl) ?_
  refine RG.opg1 _ _ _ _ _ rfl rfl rfl rfl rfl (fun hb => o_move (.v _) rfl) ?_
  refine RG.opg1 _ _ _ _ _ rfl rfl rfl rfl rfl (fun hb => o_call Ty.cal30 (width_c _) ⟨.inl (gdT hb), trivial⟩ (by exact pua rfl)) ?_
  refine RG.opg1 _ _ _ _ _ rfl rfl rfl rfl rfl (fun hb => o_not (gdT hb)) ?_
  refine RG.op _ _ rfl rfl (o_or _ _ rfl rfl rfl) ?_
  refine RG.op _ _ rfl rfl (o_move (.v _) rfl) ?_
  refine RG.opg1 _ _ _ _ _ rfl rfl rfl rfl rfl (fun hb => o_move (.v _) rfl) ?_
  refine RG.opg1 _ _ _ _ _ rfl rfl rfl rfl rfl (fun hb => o_call Ty.cal31 (time_c _) ⟨.inl (gdT hb), trivial⟩ (by exact pua rfl)) ?_
  refine RG.opg1 _ _ _ _ _ rfl rfl rfl rfl rfl (fun hb => o_not (gdT hb)) ?_
  refine RG.op _ _ rfl rfl (o_or _ _ rfl rfl rfl) ?_
  refine RG.nil (h3_ _ ?_)
  refine WC.cond _ rfl (fun c1 => ?_) (fun c1 => ?_)
  ·
    refine WC.seq fun Fh4_ h4_ => ?_
    refine WC.region ?_
    refine RG.op _ _ rfl rfl (o_call Ty.cal9 (wakes10_c) trivial (by exact pua rfl)) ?_
    refine RG.op _ _ rfl rfl (o_assign (.v _) rfl) ?_
    refine RG.nil (h4_ _ ?_)
    refine WC.ret ?_
    exact Ends.r1 rfl (.tmp _ (.v _) rfl) (.v _) (rfl)
  ·
    have c1' := c1
    simp only [Bool.or_eq_false_iff, Bool.not_eq_false'] at c1'
    have hg := great_no c1'.1.1
    have ha40 := hg a (by simp)
    have hw := wid_iff.1 c1'.1.2
    have htm := time_iff.1 c1'.2
    have hwe := wrong_time hw (time_fit htm)
    refine WC.skip (h2_ _ ?_)
    refine WC.seq fun Fh5_ h5_ => ?_
    refine WC.seq fun Fh6_ h6_ => ?_
    refine WC.region ?_
    refine RG.op _ _ rfl rfl (o_assign (.v _) rfl) ?_
    refine RG.nil (h6_ _ ?_)
    refine WC.block ?_
    refine WC.loopU [6, 7, 33, 34, 35, 36, 37, 38, 39, 40, 41, 42, 43, 44, 45, 46, 47, 48, 49, 50, 51, 52, 53, 54, 55] (fun (k : Nat) => [(7, I64 ((k : Nat) : Int))]) (fun (k : Nat) => []) (fun (k : Nat) => k ≤ a.length ∧ ∀ i, i < k → okT (a.getD i (0, 0)) = true) (fun (k : Nat) => a.length - k) 0 ⟨Nat.zero_le _, fun i h => absurd h (Nat.not_lt_zero i)⟩ ?lpa7_ ?lpb8_
    case lpa7_ =>
      exact .mk' ⟨⟨rfl, .v _⟩, trivial⟩ (same_refl _ _) (rfl) (by repeat (first | exact trivial | refine And.intro (Nat.le_refl _) ?_ | refine And.intro trivial ?_ | refine And.intro (by show _ ≤ _; (first | omega | (simp only [LS, len_pcs] <;> omega))) ?_)) (by repeat (first | exact trivial | refine And.intro (one_ok (.own _ _ _ _ _ (Nat.le_refl _))) ?_ | refine And.intro (okp (by repeat (first | exact pu_pcs _ | exact pu_bytes _ | exact pu_nil | exact pu_vs rfl | exact pu_map (fun _ => .v _) _ | exact pu_vals _ | refine pu_app ?_ ?_ | refine pu_cons (by exact pu_of rfl) ?_))) ?_))
    case lpb8_ =>
      rintro k hI
      have hI1 := hI.1
      have hI2 := hI.2
      refine WC.seq fun Fh9_ h9_ => ?_
      refine WC.seq fun Fh10_ h10_ => ?_
      refine WC.region ?_
      refine RG.op _ _ rfl rfl (o_move (.v _) rfl) ?_
      refine RG.op _ _ rfl rfl (o_move (.rd _ _) rfl) ?_
      refine RG.op _ _ rfl rfl (o_len_rd rfl Try.underlying22) ?_
      refine RG.op _ _ rfl rfl (o_ltI rfl rfl) ?_
      refine RG.nil (h10_ _ ?_)
      refine WC.cond _ rfl (fun c4 => ?_) (fun c4 => ?_)
      ·
        have p4 := c4
        try simp only [CN] at p4
        have hkl : k < a.length := by omega
        refine WC.skip (h9_ _ ?_)
        refine WC.seq fun Fh11_ h11_ => ?_
        refine WC.block ?_
        refine WC.seq fun Fh12_ h12_ => ?_
        refine WC.region ?_
        refine RG.op _ _ rfl rfl (o_move (.rd _ _) rfl) ?_
        refine RG.op _ _ rfl rfl (o_move (.v _) rfl) ?_
        refine RG.op _ _ rfl rfl (o_ixn_LZ (l := a) (f := pc) (0, 0) k pc_len rfl rfl rfl Try.underlying22 (sz_of Ty.inf36) rfl hkl) ?_
        refine RG.op _ _ rfl rfl (o_fld_adr rfl Try.underlying36 rfl (sz_of Ty.inf2) (by decide)) ?_
        refine RG.op _ _ rfl rfl (o_load_adr rfl Try.underlying2 rfl rfl) ?_
        refine RG.op _ _ rfl rfl (o_call Ty.cal31 (time_c _) ⟨.inl rfl, trivial⟩ (by exact pua rfl)) ?_
        refine RG.op _ _ rfl rfl (o_not rfl) ?_
        refine RG.op _ _ rfl rfl (o_move (.v _) rfl) ?_
        refine RG.opg1 _ _ _ _ _ rfl rfl rfl rfl rfl (fun hb => o_move (.rd _ _) rfl) ?_
        refine RG.opg1 _ _ _ _ _ rfl rfl rfl rfl rfl (fun hb => o_move (.v _) rfl) ?_
        refine RG.opg1 _ _ _ _ _ rfl rfl rfl rfl rfl (fun hb => o_ixn_LZ (l := a) (f := pc) (0, 0) k pc_len rfl (gdT hb) (gdT hb) Try.underlying22 (sz_of Ty.inf36) rfl hkl) ?_
        refine RG.opg1 _ _ _ _ _ rfl rfl rfl rfl rfl (fun hb => o_fld_adr (gdT hb) Try.underlying36 rfl (sz_of Ty.inf2) (by decide)) ?_
        refine RG.opg1 _ _ _ _ _ rfl rfl rfl rfl rfl (fun hb => o_load_adr (gdT hb) Try.underlying2 rfl rfl) ?_
        refine RG.opg1 _ _ _ _ _ rfl rfl rfl rfl rfl (fun hb => o_call Ty.cal31 (time_c _) ⟨.inl (gdT hb), trivial⟩ (by exact pua rfl)) ?_
        refine RG.opg1 _ _ _ _ _ rfl rfl rfl rfl rfl (fun hb => o_not (gdT hb)) ?_
        refine RG.op _ _ rfl rfl (o_or _ _ rfl rfl rfl) ?_
        refine RG.nil (h12_ _ ?_)
        refine WC.cond _ rfl (fun c6 => ?_) (fun c6 => ?_)
        ·
          refine WC.seq fun Fh13_ h13_ => ?_
          refine WC.region ?_
          refine RG.op _ _ rfl rfl (o_call Ty.cal9 (wakes10_c) trivial (by exact pua rfl)) ?_
          refine RG.op _ _ rfl rfl (o_assign (.v _) rfl) ?_
          refine RG.nil (h13_ _ ?_)
          refine WC.ret ?_
          exact Ends.r1 rfl (.tmp _ (.v _) rfl) (.v _) (rfl)
        ·
          refine WC.skip (h11_ _ ?_)
          refine WC.region ?_
          refine RG.op _ _ rfl rfl (o_move (.v _) rfl) ?_
          refine RG.op _ _ rfl rfl (o_add rfl rfl (by first | omega | exact ubyte _ | (simp only [LS, len_pcs] <;> omega)) (by first | omega | exact ubyte _ | (simp only [LS, len_pcs] <;> omega))) ?_
          refine RG.op _ _ rfl rfl (o_assign (.v _) rfl) ?_
          refine RG.nil (Exists.intro (k + 1) ⟨⟨by omega, okT_next hI2 c6⟩, by first | omega | (simp only [LS, len_pcs] <;> omega), ?_⟩)
          exact .mk' ⟨⟨rfl, .v _⟩, trivial⟩ (by repeat (first | with_reducible exact same_refl _ _ | with_reducible refine same_updO (by with_unfolding_all exact rfl) ?_ | with_reducible refine same_updN ?_ | with_reducible refine same_updL (by with_unfolding_all exact rfl) ?_ | with_reducible refine same_forget (by with_unfolding_all exact rfl) ?_)) (rfl) (by repeat (first | exact trivial | refine And.intro (Nat.le_refl _) ?_ | refine And.intro trivial ?_ | refine And.intro (by show _ ≤ _; (first | omega | (simp only [LS, len_pcs] <;> omega))) ?_)) (by repeat (first | exact trivial | refine And.intro (one_ok (.own _ _ _ _ _ (Nat.le_refl _))) ?_ | refine And.intro (okp (by repeat (first | exact pu_pcs _ | exact pu_bytes _ | exact pu_nil | exact pu_vs rfl | exact pu_map (fun _ => .v _) _ | exact pu_vals _ | refine pu_app ?_ ?_ | refine pu_cons (by exact pu_of rfl) ?_))) ?_))
      ·
        have p4 := c4
        try simp only [CN] at p4
        refine WC.exit (h5_ _ ?_)
        refine WC.seq fun Fh14_ h14_ => ?_
        have hall := okT_stop hI2 (by omega)
        have e0 := rE_time hw hall
        have e1 := rE_out hw hall
        have q1 := OutM_len n a
        have q2 := InM_len n a
        have q3 := OutM_len n (OutM n a)
        have q4 := InM_len n (OutM n a)
        have f1 := formB_ok (OutM_form n a)
        have f2 := formB_ok (InM_form n a)
        refine WC.region ?_
        refine RG.op _ _ rfl rfl (o_move (.rd _ _) rfl) ?_
        refine RG.op _ _ rfl rfl (o_call Ty.cal10 (own_c _ (by first | omega | exact ubyte _ | (simp only [LS, len_pcs] <;> omega))) ⟨.inl rfl, trivial⟩ (by exact pua rfl)) ?_
        refine RG.op _ _ rfl rfl (o_move (.v _) rfl) ?_
        refine RG.op _ _ rfl rfl (o_call Ty.cal11 (Out10_c _ _ (by first | omega | exact ubyte _ | (simp only [LS, len_pcs] <;> omega))) ⟨.inl rfl, .inl rfl, trivial⟩ (by exact pua rfl)) ?_
        refine RG.op _ _ rfl rfl (o_move (.tup _) rfl) ?_
        refine RG.op _ _ rfl rfl (o_extract rfl rfl) ?_
        refine RG.op _ _ rfl rfl (o_extract rfl rfl) ?_
        refine RG.op _ _ rfl rfl (o_assign (.rd _ _) rfl) ?_
        refine RG.op _ _ rfl rfl (o_assign (.v _) rfl) ?_
        refine RG.nil (h14_ _ ?_)
        refine WC.seq fun Fh15_ h15_ => ?_
        refine WC.region ?_
        refine RG.op _ _ rfl rfl (o_move (.rd _ _) rfl) ?_
        refine RG.op _ _ rfl rfl (o_call Ty.cal10 (own_c _ (by first | omega | exact ubyte _ | (simp only [LS, len_pcs] <;> omega))) ⟨.inl rfl, trivial⟩ (by exact pua rfl)) ?_
        refine RG.op _ _ rfl rfl (o_move (.v _) rfl) ?_
        refine RG.op _ _ rfl rfl (o_call Ty.cal12 (In10_c _ _ (by first | omega | exact ubyte _ | (simp only [LS, len_pcs] <;> omega))) ⟨.inl rfl, .inl rfl, trivial⟩ (by exact pua rfl)) ?_
        refine RG.op _ _ rfl rfl (o_move (.tup _) rfl) ?_
        refine RG.op _ _ rfl rfl (o_extract rfl rfl) ?_
        refine RG.op _ _ rfl rfl (o_extract rfl rfl) ?_
        refine RG.op _ _ rfl rfl (o_assign (.rd _ _) rfl) ?_
        refine RG.op _ _ rfl rfl (o_assign (.v _) rfl) ?_
        refine RG.nil (h15_ _ ?_)
        refine WC.seq fun Fh16_ h16_ => ?_
        refine WC.region ?_
        refine RG.op _ _ rfl rfl (o_move (.v _) rfl) ?_
        refine RG.op _ _ rfl rfl (o_move (.v _) rfl) ?_
        refine RG.op _ _ rfl rfl (o_call Ty.cal32 (Bucket_c _ _) ⟨.inl rfl, .inl rfl, trivial⟩ (by exact pua rfl)) ?_
        refine RG.op _ _ rfl rfl (o_move (.tup _) rfl) ?_
        refine RG.op _ _ rfl rfl (o_extract rfl rfl) ?_
        refine RG.op _ _ rfl rfl (o_extract rfl rfl) ?_
        refine RG.op _ _ rfl rfl (o_alloc (z_of Ty.inf36) rfl) ?_
        refine RG.op _ _ rfl rfl (o_store (d := (.agg [_, _])) rfl rfl rfl rfl (sz_of Ty.inf36) (Nat.le_of_ble_eq_true rfl) rfl) ?_
        refine RG.op _ _ rfl rfl (o_assign (.v _) rfl) ?_
        refine RG.nil (h16_ _ ?_)
        refine WC.seq fun Fh17_ h17_ => ?_
        refine WC.seq fun Fh18_ h18_ => ?_
        refine WC.region ?_
        refine RG.op _ _ rfl rfl (o_move (.v _) rfl) ?_
        refine RG.op _ _ rfl rfl (o_neI rfl rfl) ?_
        refine RG.op _ _ rfl rfl (o_move (.v _) rfl) ?_
        refine RG.opg1 _ _ _ _ _ rfl rfl rfl rfl rfl (fun hb => o_move (.v _) rfl) ?_
        refine RG.opg1 _ _ _ _ _ rfl rfl rfl rfl rfl (fun hb => o_neI (gdT hb) rfl) ?_
        refine RG.op _ _ rfl rfl (o_or _ _ rfl rfl rfl) ?_
        refine RG.op _ _ rfl rfl (o_move (.v _) rfl) ?_
        refine RG.opg1 _ _ _ _ _ rfl rfl rfl rfl rfl (fun hb => o_move (.v _) rfl) ?_
        refine RG.opg1 _ _ _ _ _ rfl rfl rfl rfl rfl (fun hb => o_neI (gdT hb) rfl) ?_
        refine RG.op _ _ rfl rfl (o_or _ _ rfl rfl rfl) ?_
        refine RG.op _ _ rfl rfl (o_move (.v _) rfl) ?_
        refine RG.opg1 _ _ _ _ _ rfl rfl rfl rfl rfl (fun hb => o_move (.rd _ _) rfl) ?_
        refine RG.opg1 _ _ _ _ _ rfl rfl rfl rfl rfl (fun hb => o_call Ty.cal28 (form_c _ (by first | omega | exact ubyte _ | (have hb' := hb; simp only [CN] at hb'; omega) | (simp only [LS, len_pcs] <;> omega) | (have hb' := hb; simp only [CN] at hb'; simp only [LS, len_pcs]; omega))) ⟨.inl (gdT hb), trivial⟩ (by exact pua rfl)) ?_
        refine RG.opg1 _ _ _ _ _ rfl rfl rfl rfl rfl (fun hb => o_not (gdT hb)) ?_
        refine RG.op _ _ rfl rfl (o_or _ _ rfl rfl rfl) ?_
        refine RG.op _ _ rfl rfl (o_move (.v _) rfl) ?_
        refine RG.opg1 _ _ _ _ _ rfl rfl rfl rfl rfl (fun hb => o_move (.rd _ _) rfl) ?_
        refine RG.opg1 _ _ _ _ _ rfl rfl rfl rfl rfl (fun hb => o_call Ty.cal28 (form_c _ (by first | omega | exact ubyte _ | (have hb' := hb; simp only [CN] at hb'; omega) | (simp only [LS, len_pcs] <;> omega) | (have hb' := hb; simp only [CN] at hb'; simp only [LS, len_pcs]; omega))) ⟨.inl (gdT hb), trivial⟩ (by exact pua rfl)) ?_
        refine RG.opg1 _ _ _ _ _ rfl rfl rfl rfl rfl (fun hb => o_not (gdT hb)) ?_
        refine RG.op _ _ rfl rfl (o_or _ _ rfl rfl rfl) ?_
        refine RG.nil (h18_ _ ?_)
        refine WC.cond _ rfl (fun c11 => ?_) (fun c11 => ?_)
        ·
          (exfalso; revert c11; rw [e0, hwe, f1, f2]; decide)
        ·
          refine WC.skip (h17_ _ ?_)
          refine WC.seq fun Fh19_ h19_ => ?_
          refine WC.region ?_
          refine RG.op _ _ rfl rfl (o_load_ptr_L (xs := [_, _]) rfl Try.underlying36 rfl (sz_of Ty.inf36) rfl rfl rfl rfl) ?_
          refine RG.op _ _ rfl rfl (o_litP (cs := [I64 (floorE t n), I64 (buckE t n)]) Try.underlying22 Ty.inf36 rfl rfl rfl rfl (by repeat (first | exact pu_pcs _ | exact pu_bytes _ | exact pu_nil | exact pu_vs rfl | exact pu_map (fun _ => .v _) _ | exact pu_vals _ | refine pu_app ?_ ?_ | refine pu_cons (by exact pu_of rfl) ?_))) ?_
          refine RG.op _ _ rfl rfl (o_assign (.rd _ _) rfl) ?_
          refine RG.nil (h19_ _ ?_)
          refine WC.seq fun Fh20_ h20_ => ?_
          refine WC.seq fun Fh21_ h21_ => ?_
          refine WC.region ?_
          refine RG.op _ _ rfl rfl (o_move (.rd _ _) rfl) ?_
          refine RG.op _ _ rfl rfl (o_move (.v _) rfl) ?_
          refine RG.op _ _ rfl rfl (o_call Ty.cal24 (pHas_c _ _ (by first | omega | exact ubyte _ | (simp only [LS, len_pcs] <;> omega))) ⟨.inl rfl, .inl rfl, trivial⟩ (by exact pua rfl)) ?_
          refine RG.op _ _ rfl rfl (o_move (.rd _ _) rfl) ?_
          refine RG.op _ _ rfl rfl (o_call Ty.cal10 (own_c _ (by first | omega | exact ubyte _ | (simp only [LS, len_pcs] <;> omega))) ⟨.inl rfl, trivial⟩ (by exact pua rfl)) ?_
          refine RG.op _ _ rfl rfl (o_move (.rd _ _) rfl) ?_
          refine RG.op _ _ rfl rfl (o_call (ds := [rdP a, rdP [(floorE t n, buckE t n)]]) Ty.cal20 (And_c _ _ (by omega) (by simp)) ⟨.inl rfl, .inl rfl, trivial⟩ (by exact pua rfl)) ?_
          refine RG.op _ _ rfl rfl (o_len_rd rfl Try.underlying22) ?_
          refine RG.op _ _ rfl rfl (o_gtI rfl rfl) ?_
          refine RG.op _ _ rfl rfl (o_neb rfl rfl Try.underlying4) ?_
          refine RG.op _ _ rfl rfl (o_move (.v _) rfl) ?_
          refine RG.opg1 _ _ _ _ _ rfl rfl rfl rfl rfl (fun hb => o_move (.rd _ _) rfl) ?_
          refine RG.opg1 _ _ _ _ _ rfl rfl rfl rfl rfl (fun hb => o_move (.v _) rfl) ?_
          refine RG.opg1 _ _ _ _ _ rfl rfl rfl rfl rfl (fun hb => o_call Ty.cal24 (pHas_c _ _ (by first | omega | exact ubyte _ | (have hb' := hb; simp only [CN] at hb'; omega) | (simp only [LS, len_pcs] <;> omega) | (have hb' := hb; simp only [CN] at hb'; simp only [LS, len_pcs]; omega))) ⟨.inl (gdT hb), .inl (gdT hb), trivial⟩ (by exact pua rfl)) ?_
          refine RG.opg1 _ _ _ _ _ rfl rfl rfl rfl rfl (fun hb => o_move (.rd _ _) rfl) ?_
          refine RG.opg1 _ _ _ _ _ rfl rfl rfl rfl rfl (fun hb => o_move (.rd _ _) rfl) ?_
          refine RG.opg1 _ _ _ _ _ rfl rfl rfl rfl rfl (fun hb => o_call Ty.cal10 (own_c _ (by first | omega | exact ubyte _ | (have hb' := hb; simp only [CN] at hb'; omega) | (simp only [LS, len_pcs] <;> omega) | (have hb' := hb; simp only [CN] at hb'; simp only [LS, len_pcs]; omega))) ⟨.inl (gdT hb), trivial⟩ (by exact pua rfl)) ?_
          refine RG.opg1 _ _ _ _ _ rfl rfl rfl rfl rfl (fun hb => o_call (ds := [rdP [(floorE t n, buckE t n)], rdP a]) Ty.cal22 (Minus_c _ _ (by simp) (by omega)) ⟨.inl (gdT hb), .inl (gdT hb), trivial⟩ (by exact pua rfl)) ?_
          refine RG.opg1 _ _ _ _ _ rfl rfl rfl rfl rfl (fun hb => o_len_rd (gdT hb) Try.underlying22) ?_
          refine RG.opg1 _ _ _ _ _ rfl rfl rfl rfl rfl (fun hb => o_eqI (gdT hb) rfl) ?_
          refine RG.opg1 _ _ _ _ _ rfl rfl rfl rfl rfl (fun hb => o_neb (gdT hb) (gdT hb) Try.underlying4) ?_
          refine RG.op _ _ rfl rfl (o_or _ _ rfl rfl rfl) ?_
          refine RG.op _ _ rfl rfl (o_move (.v _) rfl) ?_
          refine RG.opg1 _ _ _ _ _ rfl rfl rfl rfl rfl (fun hb => o_move (.rd _ _) rfl) ?_
          refine RG.opg1 _ _ _ _ _ rfl rfl rfl rfl rfl (fun hb => o_move (.rd _ _) rfl) ?_
          refine RG.opg1 _ _ _ _ _ rfl rfl rfl rfl rfl (fun hb => o_call Ty.cal10 (own_c _ (by first | omega | exact ubyte _ | (have hb' := hb; simp only [CN] at hb'; omega) | (simp only [LS, len_pcs] <;> omega) | (have hb' := hb; simp only [CN] at hb'; simp only [LS, len_pcs]; omega))) ⟨.inl (gdT hb), trivial⟩ (by exact pua rfl)) ?_
          refine RG.opg1 _ _ _ _ _ rfl rfl rfl rfl rfl (fun hb => o_call Ty.cal22 (Minus_c _ _ (by first | omega | exact ubyte _ | (have hb' := hb; simp only [CN] at hb'; omega) | (simp only [LS, len_pcs] <;> omega) | (have hb' := hb; simp only [CN] at hb'; simp only [LS, len_pcs]; omega)) (by first | omega | exact ubyte _ | (have hb' := hb; simp only [CN] at hb'; omega) | (simp only [LS, len_pcs] <;> omega) | (have hb' := hb; simp only [CN] at hb'; simp only [LS, len_pcs]; omega))) ⟨.inl (gdT hb), .inl (gdT hb), trivial⟩ (by exact pua rfl)) ?_
          refine RG.opg1 _ _ _ _ _ rfl rfl rfl rfl rfl (fun hb => o_len_rd (gdT hb) Try.underlying22) ?_
          refine RG.opg1 _ _ _ _ _ rfl rfl rfl rfl rfl (fun hb => o_neI (gdT hb) rfl) ?_
          refine RG.op _ _ rfl rfl (o_or _ _ rfl rfl rfl) ?_
          refine RG.op _ _ rfl rfl (o_move (.v _) rfl) ?_
          refine RG.opg1 _ _ _ _ _ rfl rfl rfl rfl rfl (fun hb => o_move (.rd _ _) rfl) ?_
          refine RG.opg1 _ _ _ _ _ rfl rfl rfl rfl rfl (fun hb => o_call Ty.cal10 (own_c _ (by first | omega | exact ubyte _ | (have hb' := hb; simp only [CN] at hb'; omega) | (simp only [LS, len_pcs] <;> omega) | (have hb' := hb; simp only [CN] at hb'; simp only [LS, len_pcs]; omega))) ⟨.inl (gdT hb), trivial⟩ (by exact pua rfl)) ?_
          refine RG.opg1 _ _ _ _ _ rfl rfl rfl rfl rfl (fun hb => o_move (.rd _ _) rfl) ?_
          refine RG.opg1 _ _ _ _ _ rfl rfl rfl rfl rfl (fun hb => o_call Ty.cal22 (Minus_c _ _ (by first | omega | exact ubyte _ | (have hb' := hb; simp only [CN] at hb'; omega) | (simp only [LS, len_pcs] <;> omega) | (have hb' := hb; simp only [CN] at hb'; simp only [LS, len_pcs]; omega)) (by first | omega | exact ubyte _ | (have hb' := hb; simp only [CN] at hb'; omega) | (simp only [LS, len_pcs] <;> omega) | (have hb' := hb; simp only [CN] at hb'; simp only [LS, len_pcs]; omega))) ⟨.inl (gdT hb), .inl (gdT hb), trivial⟩ (by exact pua rfl)) ?_
          refine RG.opg1 _ _ _ _ _ rfl rfl rfl rfl rfl (fun hb => o_len_rd (gdT hb) Try.underlying22) ?_
          refine RG.opg1 _ _ _ _ _ rfl rfl rfl rfl rfl (fun hb => o_neI (gdT hb) rfl) ?_
          refine RG.op _ _ rfl rfl (o_or _ _ rfl rfl rfl) ?_
          refine RG.nil (h21_ _ ?_)
          refine WC.cond _ rfl (fun c14 => ?_) (fun c14 => ?_)
          ·
            (exfalso; revert c14; rw [has_any, has_any, wh1 hw hall hwe, wh2 hw hall hwe, wh3 hw hall, wh4 hw hall]; simp)
          ·
            refine WC.skip (h20_ _ ?_)
            refine WC.seq fun Fh22_ h22_ => ?_
            refine WC.region ?_
            refine RG.op _ _ rfl rfl (o_move (.rd _ _) rfl) ?_
            refine RG.op _ _ rfl rfl (o_move (.v _) rfl) ?_
            refine RG.op _ _ rfl rfl (o_call Ty.cal11 (Out10_c _ _ (by first | omega | exact ubyte _ | (simp only [LS, len_pcs] <;> omega))) ⟨.inl rfl, .inl rfl, trivial⟩ (by exact pua rfl)) ?_
            refine RG.op _ _ rfl rfl (o_move (.tup _) rfl) ?_
            refine RG.op _ _ rfl rfl (o_extract rfl rfl) ?_
            refine RG.op _ _ rfl rfl (o_extract rfl rfl) ?_
            refine RG.op _ _ rfl rfl (o_assign (.rd _ _) rfl) ?_
            refine RG.op _ _ rfl rfl (o_assign (.v _) rfl) ?_
            refine RG.nil (h22_ _ ?_)
            refine WC.seq fun Fh23_ h23_ => ?_
            refine WC.region ?_
            refine RG.op _ _ rfl rfl (o_move (.rd _ _) rfl) ?_
            refine RG.op _ _ rfl rfl (o_move (.v _) rfl) ?_
            refine RG.op _ _ rfl rfl (o_call Ty.cal12 (In10_c _ _ (by first | omega | exact ubyte _ | (simp only [LS, len_pcs] <;> omega))) ⟨.inl rfl, .inl rfl, trivial⟩ (by exact pua rfl)) ?_
            refine RG.op _ _ rfl rfl (o_move (.tup _) rfl) ?_
            refine RG.op _ _ rfl rfl (o_extract rfl rfl) ?_
            refine RG.op _ _ rfl rfl (o_extract rfl rfl) ?_
            refine RG.op _ _ rfl rfl (o_assign (.rd _ _) rfl) ?_
            refine RG.op _ _ rfl rfl (o_assign (.v _) rfl) ?_
            refine RG.nil (h23_ _ ?_)
            refine WC.seq fun Fh24_ h24_ => ?_
            refine WC.region ?_
            refine RG.op _ _ rfl rfl (o_move (.v _) rfl) ?_
            refine RG.op _ _ rfl rfl (o_eqI rfl rfl) ?_
            refine RG.op _ _ rfl rfl (o_move (.v _) rfl) ?_
            refine RG.opg1 _ _ _ _ _ rfl rfl rfl rfl rfl (fun hb => o_move (.v _) rfl) ?_
            refine RG.opg1 _ _ _ _ _ rfl rfl rfl rfl rfl (fun hb => o_eqI (gdT hb) rfl) ?_
            refine RG.op _ _ rfl rfl (o_and _ _ rfl rfl rfl) ?_
            refine RG.op _ _ rfl rfl (o_move (.v _) rfl) ?_
            refine RG.opg1 _ _ _ _ _ rfl rfl rfl rfl rfl (fun hb => o_move (.rd _ _) rfl) ?_
            refine RG.opg1 _ _ _ _ _ rfl rfl rfl rfl rfl (fun hb => o_move (.rd _ _) rfl) ?_
            refine RG.opg1 _ _ _ _ _ rfl rfl rfl rfl rfl (fun hb => o_call Ty.cal29 (equal_c _ _ (by first | omega | exact ubyte _ | (have hb' := hb; simp only [CN] at hb'; omega) | (simp only [LS, len_pcs] <;> omega) | (have hb' := hb; simp only [CN] at hb'; simp only [LS, len_pcs]; omega)) (by first | omega | exact ubyte _ | (have hb' := hb; simp only [CN] at hb'; omega) | (simp only [LS, len_pcs] <;> omega) | (have hb' := hb; simp only [CN] at hb'; simp only [LS, len_pcs]; omega))) ⟨.inl (gdT hb), .inl (gdT hb), trivial⟩ (by exact pua rfl)) ?_
            refine RG.op _ _ rfl rfl (o_and _ _ rfl rfl rfl) ?_
            refine RG.op _ _ rfl rfl (o_move (.v _) rfl) ?_
            refine RG.opg1 _ _ _ _ _ rfl rfl rfl rfl rfl (fun hb => o_move (.rd _ _) rfl) ?_
            refine RG.opg1 _ _ _ _ _ rfl rfl rfl rfl rfl (fun hb => o_move (.rd _ _) rfl) ?_
            refine RG.opg1 _ _ _ _ _ rfl rfl rfl rfl rfl (fun hb => o_call Ty.cal29 (equal_c _ _ (by first | omega | exact ubyte _ | (have hb' := hb; simp only [CN] at hb'; omega) | (simp only [LS, len_pcs] <;> omega) | (have hb' := hb; simp only [CN] at hb'; simp only [LS, len_pcs]; omega)) (by first | omega | exact ubyte _ | (have hb' := hb; simp only [CN] at hb'; omega) | (simp only [LS, len_pcs] <;> omega) | (have hb' := hb; simp only [CN] at hb'; simp only [LS, len_pcs]; omega))) ⟨.inl (gdT hb), .inl (gdT hb), trivial⟩ (by exact pua rfl)) ?_
            refine RG.op _ _ rfl rfl (o_and _ _ rfl rfl rfl) ?_
            refine RG.op _ _ rfl rfl (o_move (.v _) rfl) ?_
            refine RG.opg1 _ _ _ _ _ rfl rfl rfl rfl rfl (fun hb => o_call Ty.cal9 (wakes10_c) trivial (by exact pua rfl)) ?_
            refine RG.op _ _ rfl rfl (o_and _ _ rfl rfl rfl) ?_
            refine RG.op _ _ rfl rfl (o_assign (.v _) rfl) ?_
            refine RG.nil (h24_ _ ?_)
            refine WC.ret ?_
            exact Ends.r1 rfl (.tmp _ (.v _) rfl) (.v _) (congrArg Bo (by rw [e1, wh5 hw hall, wh6 hw hall]; simp))
set_option maxRecDepth 20000 in
set_option maxHeartbeats 4000000 in
theorem salign_c (a : List Sp) (ha : a.length ≤ 9223372036854775807) (b : List Sp) (hb : b.length ≤ 9223372036854775807) (n : Int) (hn : -9223372036854775808 ≤ n ∧ n ≤ 9223372036854775807) : Fun Try.prog 7 [rdP a, rdP b, I64 n] (· = Bo true) := by
  refine Fun.of Try.func7 rfl (Nat.le_of_ble_eq_true rfl) fun C => ?_
  refine WC.seq fun Fh1_ h1_ => ?_
  refine WC.region ?_
  refine RG.op _ _ rfl rfl (o_assign (.v _) rfl) ?_
  refine RG.nil (h1_ _ ?_)
  refine WC.seq fun Fh2_ h2_ => ?_
  refine WC.seq fun Fh3_ h3_ => ?_
  refine WC.region ?_
  refine RG.op _ _ rfl rfl (o_move (.rd _ _) rfl) ?_
  refine RG.op _ _ rfl rfl (o_move (.rd _ _) rfl) ?_
  refine RG.op _ _ rfl rfl (o_litP (cs := [rdP a, rdP b]) Try.underlying46 Ty.inf22 rfl rfl rfl rfl (pu_cons (by exact pu_of rfl) (pu_cons (by exact pu_of rfl) pu_nil))) ?_
  refine RG.op _ _ rfl rfl (o_call (ds := [rdPs [a, b]]) Ty.cal8 (great_c [a, b] (by simp) (by simp; omega)) ⟨.inl rfl, trivial⟩ (by exact pua rfl)) ?_
  refine RG.op _ _ rfl rfl (o_move (.v _) rfl) ?_
  refine RG.opg1 _ _ _ _ _ rfl rfl rfl rfl rfl (fun hb => o_move (.v _) rfl) ?_
  refine RG.opg1 _ _ _ _ _ rfl rfl rfl rfl rfl (fun hb => o_call Ty.cal30 (width_c _) ⟨.inl (gdT hb), trivial⟩ (by exact pua rfl)) ?_
  refine RG.opg1 _ _ _ _ _ rfl rfl rfl rfl rfl (fun hb => o_not (gdT hb)) ?_
  refine RG.op _ _ rfl rfl (o_or _ _ rfl rfl rfl) ?_
  refine RG.nil (h3_ _ ?_)
  refine WC.cond _ rfl (fun c1 => ?_) (fun c1 => ?_)
  ·
    refine WC.seq fun Fh4_ h4_ => ?_
    refine WC.region ?_
    refine RG.op _ _ rfl rfl (o_call Ty.cal9 (wakes10_c) trivial (by exact pua rfl)) ?_
    refine RG.op _ _ rfl rfl (o_assign (.v _) rfl) ?_
    refine RG.nil (h4_ _ ?_)
    refine WC.ret ?_
    exact Ends.r1 rfl (.tmp _ (.v _) rfl) (.v _) (rfl)
  ·
    have c1' := c1
    simp only [Bool.or_eq_false_iff, Bool.not_eq_false'] at c1'
    have hg := great_no c1'.1
    have ha40 := hg a (by simp)
    have hb40 := hg b (by simp)
    have hw := wid_iff.1 c1'.2
    have hab : (a ++ b).length = a.length + b.length := List.length_append
    refine WC.skip (h2_ _ ?_)
    refine WC.seq fun Fh5_ h5_ => ?_
    refine WC.region ?_
    refine RG.op _ _ rfl rfl (o_move (.rd _ _) rfl) ?_
    refine RG.op _ _ rfl rfl (OpX.d (x_call Ty.cal10 (FunM.new1 (ownM_c a (by omega)) ⟨.rd _ _, trivial⟩ (by repeat (first | exact pu_pcs _ | exact pu_bytes _ | exact pu_nil | exact pu_vs rfl | exact pu_map (fun _ => .v _) _ | exact pu_vals _ | refine pu_app ?_ ?_ | refine pu_cons (by exact pu_of rfl) ?_))) ⟨.inl rfl, trivial⟩) (VLe.le (by repeat (first | exact trivial | refine And.intro (Nat.le_refl _) ?_ | refine And.intro trivial ?_ | refine And.intro (by show _ ≤ _; (first | omega | (simp only [LS, len_pcs] <;> omega))) ?_)))) ?_
    refine RG.op _ _ rfl rfl (o_move (.rd _ _) rfl) ?_
    refine RG.op _ _ rfl rfl (o_appT (Elem.of Try.underlying22 Ty.inf36 rfl (by decide)) rfl rfl rfl (by first | omega | exact ubyte _ | (simp only [LS, len_pcs] <;> omega)) (by first | omega | exact ubyte _ | (simp only [LS, len_pcs] <;> omega)) (by repeat (first | exact bytesD_one _ | exact one_nil | exact one_map (fun _ => rfl) _ | exact one_vals _ | exact one_pcs _ | refine one_app ?_ ?_ | refine one_cons rfl ?_)) (by first | omega | exact ubyte _ | (simp only [LS, len_pcs] <;> omega)) (by first | omega | exact ubyte _ | (simp only [LS, len_pcs] <;> omega))) ?_
    refine RG.op _ _ rfl rfl (o_assign (.own _ _ _ _ _) rfl) ?_
    refine RG.nil (h5_ _ ?_)
    refine WC.seq fun Fh6_ h6_ => ?_
    refine WC.seq fun Fh7_ h7_ => ?_
    refine WC.frz 0 _ [(7, rdP (a ++ b))] rfl (by repeat (first | exact pu_pcs _ | exact pu_bytes _ | exact pu_nil | exact pu_vs rfl | exact pu_map (fun _ => .v _) _ | exact pu_vals _ | refine pu_app ?_ ?_ | refine pu_cons (by exact pu_of rfl) ?_)) ⟨.rowE rfl (by first | rfl | omega | (simp; done) | (simp; omega)) (by first | rfl | simp [bytesD]), trivial⟩ ?_
    refine WC.region ?_
    refine RG.op _ _ rfl rfl (o_assign (.v _) rfl) ?_
    refine RG.nil (h7_ _ ?_)
    refine WC.block ?_
    refine WC.loopU [6, 8, 42, 43, 44, 45, 46, 47, 48, 49, 50, 51, 52, 53, 54, 55, 56, 57, 58, 59, 60, 61, 62, 63, 64] (fun (k : Nat) => [(8, I64 ((k : Nat) : Int))]) (fun (k : Nat) => []) (fun (k : Nat) => k ≤ (a ++ b).length ∧ ∀ i, i < k → okT ((a ++ b).getD i (0, 0)) = true) (fun (k : Nat) => (a ++ b).length - k) 0 ⟨Nat.zero_le _, fun i h => absurd h (Nat.not_lt_zero i)⟩ ?lpa8_ ?lpb9_
    case lpa8_ =>
      exact .mk' ⟨⟨rfl, .v _⟩, trivial⟩ (same_refl _ _) (rfl) (by repeat (first | exact trivial | refine And.intro (Nat.le_refl _) ?_ | refine And.intro trivial ?_ | refine And.intro (by show _ ≤ _; (first | omega | (simp only [LS, len_pcs] <;> omega))) ?_)) (by repeat (first | exact trivial | refine And.intro (one_ok (.own _ _ _ _ _ (Nat.le_refl _))) ?_ | refine And.intro (okp (by repeat (first | exact pu_pcs _ | exact pu_bytes _ | exact pu_nil | exact pu_vs rfl | exact pu_map (fun _ => .v _) _ | exact pu_vals _ | refine pu_app ?_ ?_ | refine pu_cons (by exact pu_of rfl) ?_))) ?_))
    case lpb9_ =>
      rintro k hI
      have hI1 := hI.1
      have hI2 := hI.2
      refine WC.seq fun Fh10_ h10_ => ?_
      refine WC.seq fun Fh11_ h11_ => ?_
      refine WC.region ?_
      refine RG.op _ _ rfl rfl (o_move (.v _) rfl) ?_
      refine RG.op _ _ rfl rfl (o_move (.rd _ _) rfl) ?_
      refine RG.op _ _ rfl rfl (o_len_rd rfl Try.underlying22) ?_
      refine RG.op _ _ rfl rfl (o_ltI rfl rfl) ?_
      refine RG.nil (h11_ _ ?_)
      refine WC.cond _ rfl (fun c5 => ?_) (fun c5 => ?_)
      ·
        have hkl : k < (a ++ b).length := by have := of_decide_eq_true c5; omega
        refine WC.skip (h10_ _ ?_)
        refine WC.seq fun Fh12_ h12_ => ?_
        refine WC.block ?_
        refine WC.seq fun Fh13_ h13_ => ?_
        refine WC.region ?_
        refine RG.op _ _ rfl rfl (o_move (.rd _ _) rfl) ?_
        refine RG.op _ _ rfl rfl (o_move (.v _) rfl) ?_
        refine RG.op _ _ rfl rfl (o_ixn_LZ (l := a ++ b) (f := pc) (0, 0) k pc_len rfl rfl rfl Try.underlying22 (sz_of Ty.inf36) rfl hkl) ?_
        refine RG.op _ _ rfl rfl (o_fld_adr rfl Try.underlying36 rfl (sz_of Ty.inf2) (by decide)) ?_
        refine RG.op _ _ rfl rfl (o_load_adr rfl Try.underlying2 rfl rfl) ?_
        refine RG.op _ _ rfl rfl (o_call Ty.cal31 (time_c _) ⟨.inl rfl, trivial⟩ (by exact pua rfl)) ?_
        refine RG.op _ _ rfl rfl (o_not rfl) ?_
        refine RG.op _ _ rfl rfl (o_move (.v _) rfl) ?_
        refine RG.opg1 _ _ _ _ _ rfl rfl rfl rfl rfl (fun hb => o_move (.rd _ _) rfl) ?_
        refine RG.opg1 _ _ _ _ _ rfl rfl rfl rfl rfl (fun hb => o_move (.v _) rfl) ?_
        refine RG.opg1 _ _ _ _ _ rfl rfl rfl rfl rfl (fun hb => o_ixn_LZ (l := a ++ b) (f := pc) (0, 0) k pc_len rfl (gdT hb) (gdT hb) Try.underlying22 (sz_of Ty.inf36) rfl hkl) ?_
        refine RG.opg1 _ _ _ _ _ rfl rfl rfl rfl rfl (fun hb => o_fld_adr (gdT hb) Try.underlying36 rfl (sz_of Ty.inf2) (by decide)) ?_
        refine RG.opg1 _ _ _ _ _ rfl rfl rfl rfl rfl (fun hb => o_load_adr (gdT hb) Try.underlying2 rfl rfl) ?_
        refine RG.opg1 _ _ _ _ _ rfl rfl rfl rfl rfl (fun hb => o_call Ty.cal31 (time_c _) ⟨.inl (gdT hb), trivial⟩ (by exact pua rfl)) ?_
        refine RG.opg1 _ _ _ _ _ rfl rfl rfl rfl rfl (fun hb => o_not (gdT hb)) ?_
        refine RG.op _ _ rfl rfl (o_or _ _ rfl rfl rfl) ?_
        refine RG.nil (h13_ _ ?_)
        refine WC.cond _ rfl (fun c7 => ?_) (fun c7 => ?_)
        ·
          refine WC.seq fun Fh14_ h14_ => ?_
          refine WC.region ?_
          refine RG.op _ _ rfl rfl (o_call Ty.cal9 (wakes10_c) trivial (by exact pua rfl)) ?_
          refine RG.op _ _ rfl rfl (o_assign (.v _) rfl) ?_
          refine RG.nil (h14_ _ ?_)
          refine WC.ret ?_
          exact Ends.r1 rfl (.tmp _ (.v _) rfl) (.v _) (rfl)
        ·
          refine WC.skip (h12_ _ ?_)
          refine WC.region ?_
          refine RG.op _ _ rfl rfl (o_move (.v _) rfl) ?_
          refine RG.op _ _ rfl rfl (o_add rfl rfl (by first | omega | exact ubyte _ | (simp only [LS, len_pcs] <;> omega)) (by first | omega | exact ubyte _ | (simp only [LS, len_pcs] <;> omega))) ?_
          refine RG.op _ _ rfl rfl (o_assign (.v _) rfl) ?_
          refine RG.nil (Exists.intro (k + 1) ⟨⟨by omega, okT_next hI2 c7⟩, by first | omega | (simp only [LS, len_pcs] <;> omega), ?_⟩)
          exact .mk' ⟨⟨rfl, .v _⟩, trivial⟩ (by repeat (first | with_reducible exact same_refl _ _ | with_reducible refine same_updO (by with_unfolding_all exact rfl) ?_ | with_reducible refine same_updN ?_ | with_reducible refine same_updL (by with_unfolding_all exact rfl) ?_ | with_reducible refine same_forget (by with_unfolding_all exact rfl) ?_)) (rfl) (by repeat (first | exact trivial | refine And.intro (Nat.le_refl _) ?_ | refine And.intro trivial ?_ | refine And.intro (by show _ ≤ _; (first | omega | (simp only [LS, len_pcs] <;> omega))) ?_)) (by repeat (first | exact trivial | refine And.intro (one_ok (.own _ _ _ _ _ (Nat.le_refl _))) ?_ | refine And.intro (okp (by repeat (first | exact pu_pcs _ | exact pu_bytes _ | exact pu_nil | exact pu_vs rfl | exact pu_map (fun _ => .v _) _ | exact pu_vals _ | refine pu_app ?_ ?_ | refine pu_cons (by exact pu_of rfl) ?_))) ?_))
      ·
        have hkl : (a ++ b).length ≤ k := by have := of_decide_eq_false c5; omega
        refine WC.exit (h6_ _ ?_)
        refine WC.seq fun Fh15_ h15_ => ?_
        have hall := okT_stop hI2 hkl
        have haa := al_a hall
        have hbb := al_b hall
        have e1 := al_or hw hall
        have e2 := al_and hw hall
        have e3 := rE_time hw haa
        have e4 := rE_time hw hbb
        have e5 := al_min hw a
        have q1 := bothM_len orG a b
        have q2 := bothM_len andG a b
        have q3 := OutM_len n (bothM orG a b)
        have q4 := OutM_len n a
        have q5 := OutM_len n b
        have q6 := InM_len n (bothM andG a b)
        have q7 := InM_len n a
        have q8 := InM_len n b
        have q9 := bothM_len orG (OutM n a) (OutM n b)
        have q10 := bothM_len andG (InM n a) (InM n b)
        have q11 := bothM_len minG [allS n] a
        have q12 := InM_len n (bothM minG [allS n] a)
        have q13 := bothM_len minG [allS n] (OutM n a)
        have q14 : [allS n].length = 1 := rfl
        refine WC.region ?_
        refine RG.op _ _ rfl rfl (o_move (.rd _ _) rfl) ?_
        refine RG.op _ _ rfl rfl (o_call Ty.cal10 (own_c _ (by first | omega | exact ubyte _ | (simp only [LS, len_pcs] <;> omega))) ⟨.inl rfl, trivial⟩ (by exact pua rfl)) ?_
        refine RG.op _ _ rfl rfl (o_move (.rd _ _) rfl) ?_
        refine RG.op _ _ rfl rfl (o_call Ty.cal10 (own_c _ (by first | omega | exact ubyte _ | (simp only [LS, len_pcs] <;> omega))) ⟨.inl rfl, trivial⟩ (by exact pua rfl)) ?_
        refine RG.op _ _ rfl rfl (o_call Ty.cal18 (Or_c _ _ (by first | omega | exact ubyte _ | (simp only [LS, len_pcs] <;> omega)) (by first | omega | exact ubyte _ | (simp only [LS, len_pcs] <;> omega))) ⟨.inl rfl, .inl rfl, trivial⟩ (by exact pua rfl)) ?_
        refine RG.op _ _ rfl rfl (o_move (.v _) rfl) ?_
        refine RG.op _ _ rfl rfl (o_call Ty.cal11 (Out10_c _ _ (by first | omega | exact ubyte _ | (simp only [LS, len_pcs] <;> omega))) ⟨.inl rfl, .inl rfl, trivial⟩ (by exact pua rfl)) ?_
        refine RG.op _ _ rfl rfl (o_move (.tup _) rfl) ?_
        refine RG.op _ _ rfl rfl (o_extract rfl rfl) ?_
        refine RG.op _ _ rfl rfl (o_extract rfl rfl) ?_
        refine RG.op _ _ rfl rfl (o_assign (.rd _ _) rfl) ?_
        refine RG.op _ _ rfl rfl (o_assign (.v _) rfl) ?_
        refine RG.nil (h15_ _ ?_)
        refine WC.seq fun Fh16_ h16_ => ?_
        refine WC.region ?_
        refine RG.op _ _ rfl rfl (o_move (.rd _ _) rfl) ?_
        refine RG.op _ _ rfl rfl (o_call Ty.cal10 (own_c _ (by first | omega | exact ubyte _ | (simp only [LS, len_pcs] <;> omega))) ⟨.inl rfl, trivial⟩ (by exact pua rfl)) ?_
        refine RG.op _ _ rfl rfl (o_move (.v _) rfl) ?_
        refine RG.op _ _ rfl rfl (o_call Ty.cal11 (Out10_c _ _ (by first | omega | exact ubyte _ | (simp only [LS, len_pcs] <;> omega))) ⟨.inl rfl, .inl rfl, trivial⟩ (by exact pua rfl)) ?_
        refine RG.op _ _ rfl rfl (o_move (.tup _) rfl) ?_
        refine RG.op _ _ rfl rfl (o_extract rfl rfl) ?_
        refine RG.op _ _ rfl rfl (o_extract rfl rfl) ?_
        refine RG.op _ _ rfl rfl (o_assign (.rd _ _) rfl) ?_
        refine RG.op _ _ rfl rfl (o_assign (.v _) rfl) ?_
        refine RG.nil (h16_ _ ?_)
        refine WC.seq fun Fh17_ h17_ => ?_
        refine WC.region ?_
        refine RG.op _ _ rfl rfl (o_move (.rd _ _) rfl) ?_
        refine RG.op _ _ rfl rfl (o_call Ty.cal10 (own_c _ (by first | omega | exact ubyte _ | (simp only [LS, len_pcs] <;> omega))) ⟨.inl rfl, trivial⟩ (by exact pua rfl)) ?_
        refine RG.op _ _ rfl rfl (o_move (.v _) rfl) ?_
        refine RG.op _ _ rfl rfl (o_call Ty.cal11 (Out10_c _ _ (by first | omega | exact ubyte _ | (simp only [LS, len_pcs] <;> omega))) ⟨.inl rfl, .inl rfl, trivial⟩ (by exact pua rfl)) ?_
        refine RG.op _ _ rfl rfl (o_move (.tup _) rfl) ?_
        refine RG.op _ _ rfl rfl (o_extract rfl rfl) ?_
        refine RG.op _ _ rfl rfl (o_extract rfl rfl) ?_
        refine RG.op _ _ rfl rfl (o_assign (.rd _ _) rfl) ?_
        refine RG.op _ _ rfl rfl (o_assign (.v _) rfl) ?_
        refine RG.nil (h17_ _ ?_)
        refine WC.seq fun Fh18_ h18_ => ?_
        refine WC.region ?_
        refine RG.op _ _ rfl rfl (o_move (.rd _ _) rfl) ?_
        refine RG.op _ _ rfl rfl (o_call Ty.cal10 (own_c _ (by first | omega | exact ubyte _ | (simp only [LS, len_pcs] <;> omega))) ⟨.inl rfl, trivial⟩ (by exact pua rfl)) ?_
        refine RG.op _ _ rfl rfl (o_move (.rd _ _) rfl) ?_
        refine RG.op _ _ rfl rfl (o_call Ty.cal10 (own_c _ (by first | omega | exact ubyte _ | (simp only [LS, len_pcs] <;> omega))) ⟨.inl rfl, trivial⟩ (by exact pua rfl)) ?_
        refine RG.op _ _ rfl rfl (o_call Ty.cal20 (And_c _ _ (by first | omega | exact ubyte _ | (simp only [LS, len_pcs] <;> omega)) (by first | omega | exact ubyte _ | (simp only [LS, len_pcs] <;> omega))) ⟨.inl rfl, .inl rfl, trivial⟩ (by exact pua rfl)) ?_
        refine RG.op _ _ rfl rfl (o_move (.v _) rfl) ?_
        refine RG.op _ _ rfl rfl (o_call Ty.cal12 (In10_c _ _ (by first | omega | exact ubyte _ | (simp only [LS, len_pcs] <;> omega))) ⟨.inl rfl, .inl rfl, trivial⟩ (by exact pua rfl)) ?_
        refine RG.op _ _ rfl rfl (o_move (.tup _) rfl) ?_
        refine RG.op _ _ rfl rfl (o_extract rfl rfl) ?_
        refine RG.op _ _ rfl rfl (o_extract rfl rfl) ?_
        refine RG.op _ _ rfl rfl (o_assign (.rd _ _) rfl) ?_
        refine RG.op _ _ rfl rfl (o_assign (.v _) rfl) ?_
        refine RG.nil (h18_ _ ?_)
        refine WC.seq fun Fh19_ h19_ => ?_
        refine WC.region ?_
        refine RG.op _ _ rfl rfl (o_move (.rd _ _) rfl) ?_
        refine RG.op _ _ rfl rfl (o_call Ty.cal10 (own_c _ (by first | omega | exact ubyte _ | (simp only [LS, len_pcs] <;> omega))) ⟨.inl rfl, trivial⟩ (by exact pua rfl)) ?_
        refine RG.op _ _ rfl rfl (o_move (.v _) rfl) ?_
        refine RG.op _ _ rfl rfl (o_call Ty.cal12 (In10_c _ _ (by first | omega | exact ubyte _ | (simp only [LS, len_pcs] <;> omega))) ⟨.inl rfl, .inl rfl, trivial⟩ (by exact pua rfl)) ?_
        refine RG.op _ _ rfl rfl (o_move (.tup _) rfl) ?_
        refine RG.op _ _ rfl rfl (o_extract rfl rfl) ?_
        refine RG.op _ _ rfl rfl (o_extract rfl rfl) ?_
        refine RG.op _ _ rfl rfl (o_assign (.rd _ _) rfl) ?_
        refine RG.op _ _ rfl rfl (o_assign (.v _) rfl) ?_
        refine RG.nil (h19_ _ ?_)
        refine WC.seq fun Fh20_ h20_ => ?_
        refine WC.region ?_
        refine RG.op _ _ rfl rfl (o_move (.rd _ _) rfl) ?_
        refine RG.op _ _ rfl rfl (o_call Ty.cal10 (own_c _ (by first | omega | exact ubyte _ | (simp only [LS, len_pcs] <;> omega))) ⟨.inl rfl, trivial⟩ (by exact pua rfl)) ?_
        refine RG.op _ _ rfl rfl (o_move (.v _) rfl) ?_
        refine RG.op _ _ rfl rfl (o_call Ty.cal12 (In10_c _ _ (by first | omega | exact ubyte _ | (simp only [LS, len_pcs] <;> omega))) ⟨.inl rfl, .inl rfl, trivial⟩ (by exact pua rfl)) ?_
        refine RG.op _ _ rfl rfl (o_move (.tup _) rfl) ?_
        refine RG.op _ _ rfl rfl (o_extract rfl rfl) ?_
        refine RG.op _ _ rfl rfl (o_extract rfl rfl) ?_
        refine RG.op _ _ rfl rfl (o_assign (.rd _ _) rfl) ?_
        refine RG.op _ _ rfl rfl (o_assign (.v _) rfl) ?_
        refine RG.nil (h20_ _ ?_)
        refine WC.seq fun Fh21_ h21_ => ?_
        refine WC.seq fun Fh22_ h22_ => ?_
        refine WC.region ?_
        refine RG.op _ _ rfl rfl (o_move (.v _) rfl) ?_
        refine RG.op _ _ rfl rfl (o_neI rfl rfl) ?_
        refine RG.op _ _ rfl rfl (o_move (.v _) rfl) ?_
        refine RG.opg1 _ _ _ _ _ rfl rfl rfl rfl rfl (fun hb => o_move (.v _) rfl) ?_
        refine RG.opg1 _ _ _ _ _ rfl rfl rfl rfl rfl (fun hb => o_neI (gdT hb) rfl) ?_
        refine RG.op _ _ rfl rfl (o_or _ _ rfl rfl rfl) ?_
        refine RG.op _ _ rfl rfl (o_move (.v _) rfl) ?_
        refine RG.opg1 _ _ _ _ _ rfl rfl rfl rfl rfl (fun hb => o_move (.v _) rfl) ?_
        refine RG.opg1 _ _ _ _ _ rfl rfl rfl rfl rfl (fun hb => o_neI (gdT hb) rfl) ?_
        refine RG.op _ _ rfl rfl (o_or _ _ rfl rfl rfl) ?_
        refine RG.op _ _ rfl rfl (o_move (.v _) rfl) ?_
        refine RG.opg1 _ _ _ _ _ rfl rfl rfl rfl rfl (fun hb => o_move (.v _) rfl) ?_
        refine RG.opg1 _ _ _ _ _ rfl rfl rfl rfl rfl (fun hb => o_neI (gdT hb) rfl) ?_
        refine RG.op _ _ rfl rfl (o_or _ _ rfl rfl rfl) ?_
        refine RG.op _ _ rfl rfl (o_move (.v _) rfl) ?_
        refine RG.opg1 _ _ _ _ _ rfl rfl rfl rfl rfl (fun hb => o_move (.v _) rfl) ?_
        refine RG.opg1 _ _ _ _ _ rfl rfl rfl rfl rfl (fun hb => o_neI (gdT hb) rfl) ?_
        refine RG.op _ _ rfl rfl (o_or _ _ rfl rfl rfl) ?_
        refine RG.op _ _ rfl rfl (o_move (.v _) rfl) ?_
        refine RG.opg1 _ _ _ _ _ rfl rfl rfl rfl rfl (fun hb => o_move (.v _) rfl) ?_
        refine RG.opg1 _ _ _ _ _ rfl rfl rfl rfl rfl (fun hb => o_neI (gdT hb) rfl) ?_
        refine RG.op _ _ rfl rfl (o_or _ _ rfl rfl rfl) ?_
        refine RG.nil (h22_ _ ?_)
        refine WC.cond _ rfl (fun c15 => ?_) (fun c15 => ?_)
        ·
          (exfalso; revert c15; rw [e1, e2, e3, e4]; decide)
        ·
          refine WC.skip (h21_ _ ?_)
          refine WC.seq fun Fh23_ h23_ => ?_
          refine WC.region ?_
          refine RG.op _ _ rfl rfl (o_move (.v _) rfl) ?_
          refine RG.op _ _ rfl rfl (o_call Ty.cal33 (Floor_c _ _) ⟨.inl rfl, .inl rfl, trivial⟩ (by exact pua rfl)) ?_
          refine RG.op _ _ rfl rfl (o_move (.tup _) rfl) ?_
          refine RG.op _ _ rfl rfl (o_extract rfl rfl) ?_
          refine RG.op _ _ rfl rfl (o_extract rfl rfl) ?_
          refine RG.op _ _ rfl rfl (o_assign (.v _) rfl) ?_
          refine RG.op _ _ rfl rfl (o_assign (.v _) rfl) ?_
          refine RG.nil (h23_ _ ?_)
          refine WC.seq fun Fh24_ h24_ => ?_
          refine WC.region ?_
          refine RG.op _ _ rfl rfl (o_move (.v _) rfl) ?_
          refine RG.op _ _ rfl rfl (o_call Ty.cal34 (Ceil_c _ _) ⟨.inl rfl, .inl rfl, trivial⟩ (by exact pua rfl)) ?_
          refine RG.op _ _ rfl rfl (o_move (.tup _) rfl) ?_
          refine RG.op _ _ rfl rfl (o_extract rfl rfl) ?_
          refine RG.op _ _ rfl rfl (o_extract rfl rfl) ?_
          refine RG.op _ _ rfl rfl (o_assign (.v _) rfl) ?_
          refine RG.op _ _ rfl rfl (o_assign (.v _) rfl) ?_
          refine RG.nil (h24_ _ ?_)
          refine WC.seq fun Fh25_ h25_ => ?_
          refine WC.region ?_
          refine RG.op _ _ rfl rfl (o_move (.v _) rfl) ?_
          refine RG.op _ _ rfl rfl (o_move (.v _) rfl) ?_
          refine RG.op _ _ rfl rfl (o_build (cs := [(.v _), (.v _)]) Try.underlying36 Ty.inf36 (Ty.pl36 Try.underlying36) rfl) ?_
          refine RG.op _ _ rfl rfl (o_litP (cs := [I64 (allS n).1, I64 (allS n).2]) Try.underlying22 Ty.inf36 rfl rfl rfl rfl (by repeat (first | exact pu_pcs _ | exact pu_bytes _ | exact pu_nil | exact pu_vs rfl | exact pu_map (fun _ => .v _) _ | exact pu_vals _ | refine pu_app ?_ ?_ | refine pu_cons (by exact pu_of rfl) ?_))) ?_
          refine RG.op _ _ rfl rfl (o_assign (.rd _ _) rfl) ?_
          refine RG.nil (h25_ _ ?_)
          refine WC.seq fun Fh26_ h26_ => ?_
          refine WC.region ?_
          refine RG.op _ _ rfl rfl (o_move (.rd _ _) rfl) ?_
          refine RG.op _ _ rfl rfl (o_move (.rd _ _) rfl) ?_
          refine RG.op _ _ rfl rfl (o_call Ty.cal10 (own_c _ (by first | omega | exact ubyte _ | (simp only [LS, len_pcs] <;> omega))) ⟨.inl rfl, trivial⟩ (by exact pua rfl)) ?_
          refine RG.op _ _ rfl rfl (o_call (ds := [rdP [allS n], rdP a]) Ty.cal22 (Minus_c _ _ (by simp) (by omega)) ⟨.inl rfl, .inl rfl, trivial⟩ (by exact pua rfl)) ?_
          refine RG.op _ _ rfl rfl (o_move (.v _) rfl) ?_
          refine RG.op _ _ rfl rfl (o_call Ty.cal12 (In10_c _ _ (by first | omega | exact ubyte _ | (simp only [LS, len_pcs] <;> omega))) ⟨.inl rfl, .inl rfl, trivial⟩ (by exact pua rfl)) ?_
          refine RG.op _ _ rfl rfl (o_move (.tup _) rfl) ?_
          refine RG.op _ _ rfl rfl (o_extract rfl rfl) ?_
          refine RG.op _ _ rfl rfl (o_extract rfl rfl) ?_
          refine RG.op _ _ rfl rfl (o_assign (.rd _ _) rfl) ?_
          refine RG.op _ _ rfl rfl (o_assign (.v _) rfl) ?_
          refine RG.nil (h26_ _ ?_)
          refine WC.seq fun Fh27_ h27_ => ?_
          refine WC.region ?_
          refine RG.op _ _ rfl rfl (o_move (.rd _ _) rfl) ?_
          refine RG.op _ _ rfl rfl (o_move (.rd _ _) rfl) ?_
          refine RG.op _ _ rfl rfl (o_move (.rd _ _) rfl) ?_
          refine RG.op _ _ rfl rfl (o_call Ty.cal18 (Or_c _ _ (by first | omega | exact ubyte _ | (simp only [LS, len_pcs] <;> omega)) (by first | omega | exact ubyte _ | (simp only [LS, len_pcs] <;> omega))) ⟨.inl rfl, .inl rfl, trivial⟩ (by exact pua rfl)) ?_
          refine RG.op _ _ rfl rfl (o_call Ty.cal29 (equal_c _ _ (by first | omega | exact ubyte _ | (simp only [LS, len_pcs] <;> omega)) (by first | omega | exact ubyte _ | (simp only [LS, len_pcs] <;> omega))) ⟨.inl rfl, .inl rfl, trivial⟩ (by exact pua rfl)) ?_
          refine RG.op _ _ rfl rfl (o_move (.v _) rfl) ?_
          refine RG.opg1 _ _ _ _ _ rfl rfl rfl rfl rfl (fun hb => o_move (.rd _ _) rfl) ?_
          refine RG.opg1 _ _ _ _ _ rfl rfl rfl rfl rfl (fun hb => o_move (.rd _ _) rfl) ?_
          refine RG.opg1 _ _ _ _ _ rfl rfl rfl rfl rfl (fun hb => o_move (.rd _ _) rfl) ?_
          refine RG.opg1 _ _ _ _ _ rfl rfl rfl rfl rfl (fun hb => o_call Ty.cal20 (And_c _ _ (by first | omega | exact ubyte _ | (have hb' := hb; simp only [CN] at hb'; omega) | (simp only [LS, len_pcs] <;> omega) | (have hb' := hb; simp only [CN] at hb'; simp only [LS, len_pcs]; omega)) (by first | omega | exact ubyte _ | (have hb' := hb; simp only [CN] at hb'; omega) | (simp only [LS, len_pcs] <;> omega) | (have hb' := hb; simp only [CN] at hb'; simp only [LS, len_pcs]; omega))) ⟨.inl (gdT hb), .inl (gdT hb), trivial⟩ (by exact pua rfl)) ?_
          refine RG.opg1 _ _ _ _ _ rfl rfl rfl rfl rfl (fun hb => o_call Ty.cal29 (equal_c _ _ (by first | omega | exact ubyte _ | (have hb' := hb; simp only [CN] at hb'; omega) | (simp only [LS, len_pcs] <;> omega) | (have hb' := hb; simp only [CN] at hb'; simp only [LS, len_pcs]; omega)) (by first | omega | exact ubyte _ | (have hb' := hb; simp only [CN] at hb'; omega) | (simp only [LS, len_pcs] <;> omega) | (have hb' := hb; simp only [CN] at hb'; simp only [LS, len_pcs]; omega))) ⟨.inl (gdT hb), .inl (gdT hb), trivial⟩ (by exact pua rfl)) ?_
          refine RG.op _ _ rfl rfl (o_and _ _ rfl rfl rfl) ?_
          refine RG.op _ _ rfl rfl (o_move (.v _) rfl) ?_
          refine RG.opg1 _ _ _ _ _ rfl rfl rfl rfl rfl (fun hb => o_move (.v _) rfl) ?_
          refine RG.opg1 _ _ _ _ _ rfl rfl rfl rfl rfl (fun hb => o_eqI (gdT hb) rfl) ?_
          refine RG.op _ _ rfl rfl (o_and _ _ rfl rfl rfl) ?_
          refine RG.op _ _ rfl rfl (o_move (.v _) rfl) ?_
          refine RG.opg1 _ _ _ _ _ rfl rfl rfl rfl rfl (fun hb => o_move (.rd _ _) rfl) ?_
          refine RG.opg1 _ _ _ _ _ rfl rfl rfl rfl rfl (fun hb => o_move (.rd _ _) rfl) ?_
          refine RG.opg1 _ _ _ _ _ rfl rfl rfl rfl rfl (fun hb => o_move (.rd _ _) rfl) ?_
          refine RG.opg1 _ _ _ _ _ rfl rfl rfl rfl rfl (fun hb => o_call (ds := [rdP [allS n], rdP (OutM n a)]) Ty.cal22 (Minus_c _ _ (by simp) (by omega)) ⟨.inl (gdT hb), .inl (gdT hb), trivial⟩ (by exact pua rfl)) ?_
          refine RG.opg1 _ _ _ _ _ rfl rfl rfl rfl rfl (fun hb => o_call Ty.cal29 (equal_c _ _ (by first | omega | exact ubyte _ | (have hb' := hb; simp only [CN] at hb'; omega) | (simp only [LS, len_pcs] <;> omega) | (have hb' := hb; simp only [CN] at hb'; simp only [LS, len_pcs]; omega)) (by first | omega | exact ubyte _ | (have hb' := hb; simp only [CN] at hb'; omega) | (simp only [LS, len_pcs] <;> omega) | (have hb' := hb; simp only [CN] at hb'; simp only [LS, len_pcs]; omega))) ⟨.inl (gdT hb), .inl (gdT hb), trivial⟩ (by exact pua rfl)) ?_
          refine RG.op _ _ rfl rfl (o_and _ _ rfl rfl rfl) ?_
          refine RG.op _ _ rfl rfl (o_move (.v _) rfl) ?_
          refine RG.opg1 _ _ _ _ _ rfl rfl rfl rfl rfl (fun hb => o_call Ty.cal9 (wakes10_c) trivial (by exact pua rfl)) ?_
          refine RG.op _ _ rfl rfl (o_and _ _ rfl rfl rfl) ?_
          refine RG.op _ _ rfl rfl (o_assign (.v _) rfl) ?_
          refine RG.nil (h27_ _ ?_)
          refine WC.ret ?_
          exact Ends.r1 rfl (.tmp _ (.v _) rfl) (.v _) (congrArg Bo (by rw [al1 hw hall, al2 hw hall, al3 hw haa, e5]; simp))
end Go.Proofs.Ytoekdjdgeleelaa
