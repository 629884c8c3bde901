/-
  Layer ints: rows and bytes there and back; even rows; the model alone. No condition.
-/
import Derived.Test.YtbdibcpenihpdaaI11
import Derived.Test.YtbdibcpenihpdaaDlU
set_option linter.unusedSimpArgs false
set_option linter.unusedVariables false
namespace Go.DL
open Go.RowKit
section
variable {P : Program} {C : Ctx} {env : Nat → D} {H : Heap} {dst : Option Nat} {ty t t' : TypeId} {pos : String} {after : Array Edge} {gu : Option (Nat × Bool)} {X Y : Operand}
theorem o_addW {a b : Int} (hx : ev env X = I64 a) (hy : ev env Y = I64 b) : OpD P C ⟨dst, .binOp .add t X Y t', ty, pos, after, gu⟩ env H (I64 (Go.Proofs.Ytbdibcpenihpdaa.addI a b)) H :=
  (o_bin (.int .i64 (IntKind.i64.wrap (a + b))) hx hy rfl).cast (v_int (by rw [IntKind.wrap_i64]; unfold Go.Proofs.Ytbdibcpenihpdaa.addI sgn; split <;> omega))
theorem o_subW {a b : Int} (hx : ev env X = I64 a) (hy : ev env Y = I64 b) : OpD P C ⟨dst, .binOp .sub t X Y t', ty, pos, after, gu⟩ env H (I64 (Go.Proofs.Ytbdibcpenihpdaa.wrapI a b)) H :=
  (o_bin (.int .i64 (IntKind.i64.wrap (a - b))) hx hy rfl).cast (v_int (by rw [IntKind.wrap_i64]; unfold Go.Proofs.Ytbdibcpenihpdaa.wrapI sgn; split <;> omega))
end
end Go.DL
namespace Go.Proofs.Ytbdibcpenihpdaa
open Go.RowKit Go.DL

theorem vget_at {b r : List UInt8} {a u : Nat} (h : b.drop a = encB u ++ r) (hu : u ≤ 18446744073709551615) : (u, (encB u).length, 0) = vget (b.drop a) := by rw [h, vget_enc u r hu]
theorem drop_at {b x r : List UInt8} {a : Nat} (h : b.drop a = x ++ r) : b.drop (a + x.length) = r := by rw [← List.drop_drop, h, List.drop_left]
theorem drop_len {b x : List UInt8} {a : Nat} (h : b.drop a = x) : b.length - a = x.length := by rw [← h, List.length_drop]
theorem gG_runs (b : List UInt8) (n : Nat) : ∀ (suf : List (Nat × Int)) (a : Nat) (c : List Int), okR suf → (∀ p ∈ suf, okP p) → b.drop a = suf.flatMap encP → a ≤ b.length → c.length ≤ n → (0 < c.length → ∀ q, suf.head? = some q → c.getD (c.length - 1) 0 ≠ q.2) →
    (n = c.length + (expR suf).length → gG b n a c = (c ++ expR suf, 0)) ∧ (n ≠ c.length + (expR suf).length → ¬ (gG b n a c).2 = 0)
  | [], a, c, _, _, hd, ha, hc, _ => by
    have hl := drop_len hd
    have hl : b.length - a = 0 := hl
    have e0 : (expR []).length = 0 := rfl
    refine ⟨fun h => ?_, fun h => ?_⟩
    · rw [gG_end (by omega) (by omega)]; simp [expR]
    · have hz : (0, 0, 20) = vget (b.drop a) := by rw [List.drop_eq_nil_of_le (by omega)]; rfl
      rw [gG_bad1 (by omega) hz (by decide)]; decide
  | p :: suf, a, c, hr, ho, hd, ha, hc, hne => by
    have hp := ho p (by simp)
    have hz := zig_le hp.2.1 hp.2.2
    have e1 : b.drop a = encB p.1 ++ (encB (zigN p.2) ++ suf.flatMap encP) := by rw [hd, List.flatMap_cons, encP, List.append_assoc]
    have e2 := drop_at e1
    have e3 := drop_at e2
    have r1 := vget_at e1 hp.1
    have r2 := vget_at e2 hz
    have hp1 := encB_pos p.1
    have hl := drop_len e1
    rw [List.length_append, List.length_append] at hl
    have hx : (expR (p :: suf)).length = p.1 + (expR suf).length := by rw [expR_cons]; simp
    have h1 := hr.1
    rw [hx]
    by_cases hcn : c.length = n
    · refine ⟨fun h => by omega, fun h => ?_⟩
      rw [gG_rest (by omega) (by omega)]
      show ¬ 21 = 0; decide
    by_cases hmany : n - c.length < p.1
    · refine ⟨fun h => by omega, fun h => ?_⟩
      rw [gG_many (by omega) r1 rfl (.inr hmany)]
      show ¬ 21 = 0; decide
    have hstep := gG_step (c := c) (n := n) (by omega) r1 rfl (by show ¬ (p.1 = 0 ∨ n - c.length < p.1); omega) r2 rfl (by
      rintro ⟨h3, h4⟩
      rw [zag_zig] at h4
      exact hne h3 p rfl h4)
    simp only [zag_zig] at hstep
    have ih := gG_runs b n suf (a + (encB p.1).length + (encB (zigN p.2)).length) (repI c p.1 p.2) hr.2.2 (fun q hq => ho q (by simp [hq])) e3 (by omega) (by rw [repI_len]; omega) (fun _ q hq => by rw [repI_getD _ _ _ (by omega)]; exact hr.2.1 q hq)
    rw [hstep]
    rw [repI_len] at ih
    have e4 : c ++ expR (p :: suf) = repI c p.1 p.2 ++ expR suf := by rw [expR_cons, ← List.append_assoc]; rfl
    rw [e4]
    exact ⟨fun h => ih.1 (by omega), fun h => ih.2 (by omega)⟩
theorem runsM_is (l : List Int) : runsM l = runsG (chI l 0 0) 0 0 := runsF_is l 0 0 0 0
theorem runsM_ok (l : List Int) (hl : l.length ≤ 1099511627776) : ∀ p ∈ runsM l, okP p := (runsF_ok l 0 0 0 0 (by omega) (by decide) (by decide)).1
/-- What is put is got, by its number alone. -/
theorem get_put {l : List Int} (hl : l.length ≤ 65536) : getI5 (putI5 l) l.length = (chI l 0 0, 0) := by
  have h := (gG_runs (putI5 l) l.length (runsM l) 0 [] (by rw [runsM_is]; exact okR_runsG _ _ _) (runsM_ok l (by omega)) rfl (Nat.zero_le _) (Nat.zero_le _) (fun h => absurd h (Nat.lt_irrefl _))).1 (by rw [runsM_is, exp_runsG]; simp [chI_len])
  unfold getI5
  rw [if_neg (by omega), Int.toNat_natCast, h, runsM_is, exp_runsG]
  rfl
theorem get_other {l : List Int} {n : Int} (hl : l.length ≤ 65536) (hn : ¬ n = l.length) : ¬ (getI5 (putI5 l) n).2 = 0 := by
  unfold getI5
  split
  · show ¬ 1 = 0; decide
  · refine (gG_runs (putI5 l) n.toNat (runsM l) 0 [] (by rw [runsM_is]; exact okR_runsG _ _ _) (runsM_ok l (by omega)) rfl (Nat.zero_le _) (Nat.zero_le _) (fun h => absurd h (Nat.lt_irrefl _))).2 ?_
    rw [runsM_is, exp_runsG]
    simp only [List.length_append, List.length_replicate, chI_len, List.length_nil]; omega
theorem take_enc {b : List UInt8} {a : Nat} {r : Nat × Nat × Nat} (ha : a ≤ b.length) (hr : r = vget (b.drop a)) (h0 : r.2.2 = 0) : a + r.2.1 ≤ b.length ∧ b.take (a + r.2.1) = b.take a ++ encB r.1 := by
  have h := vget_back (b := b.drop a) (x := r.1) (m := r.2.1) (by rw [← hr, ← h0])
  rw [List.length_drop] at h
  refine ⟨by omega, ?_⟩
  rw [List.take_add, h.2.2]
theorem getD_last {c : List Int} {x : Int} (h : c.getLast? = some x) : 0 < c.length ∧ c.getD (c.length - 1) 0 = x := by
  rw [List.getLast?_eq_getElem?] at h
  have hlt := (List.getElem?_eq_some_iff.1 h).1
  exact ⟨by omega, by rw [List.getD_eq_getElem?_getD, h]; rfl⟩
/-- What is got is put as just these bytes. -/
theorem gI_back (b : List UInt8) (n : Nat) : ∀ (f a : Nat) (c c' : List Int), (∀ x ∈ c, in64 x) → b.take a = (runsG c 0 0).flatMap encP → a ≤ b.length → c.length ≤ n → gI b n f a c = (c', 0) → (∀ x ∈ c', in64 x) ∧ b = (runsG c' 0 0).flatMap encP ∧ c'.length = n
  | 0, _, _, _, _, _, _, _, h => by
    have := congrArg Prod.snd h
    have : (21 : Nat) = 0 := this
    omega
  | f + 1, a, c, c', hin, ht, ha, hc, h => by
    rw [gI] at h
    split at h
    · split at h
      · have := congrArg Prod.snd h
        have : (21 : Nat) = 0 := this
        omega
      · have e : c = c' := congrArg Prod.fst h
        subst e
        rw [List.take_of_length_le (by omega)] at ht
        exact ⟨hin, ht, by omega⟩
    rename_i e1
    obtain ⟨r, hr⟩ : ∃ r, r = vget (b.drop a) := ⟨_, rfl⟩
    rw [← hr] at h
    obtain ⟨s, hs⟩ : ∃ s, s = vget (b.drop (a + r.2.1)) := ⟨_, rfl⟩
    rw [← hs] at h
    split at h
    · rename_i e; exact absurd (congrArg Prod.snd h) e
    rename_i e2
    split at h
    · have := congrArg Prod.snd h
      have : (21 : Nat) = 0 := this
      omega
    rename_i e3
    split at h
    · rename_i e; exact absurd (congrArg Prod.snd h) e
    rename_i e4
    split at h
    · have := congrArg Prod.snd h
      have : (21 : Nat) = 0 := this
      omega
    rename_i e5
    have e2 : r.2.2 = 0 := Decidable.not_not.1 e2
    have e4 : s.2.2 = 0 := Decidable.not_not.1 e4
    obtain ⟨a1, t1⟩ := take_enc ha hr e2
    obtain ⟨a2, t2⟩ := take_enc a1 hs e4
    have hzb := zag_bnd (u := s.1) (by rw [hs]; exact vget_lt _)
    refine gI_back b n f _ _ c' ?_ ?_ a2 ?_ h
    · intro x hx
      rcases List.mem_append.1 hx with hx | hx
      · exact hin x hx
      · rw [(List.mem_replicate.1 hx).2]; exact hzb
    · rw [runsG_snoc (by omega) _ c 0 0 (fun x hx => by
        rw [List.replicate_zero, List.nil_append] at hx
        obtain ⟨g1, g2⟩ := getD_last hx
        rw [g2] at e5
        exact fun e => e5 ⟨g1, e⟩), t2, t1, ht, List.flatMap_append]
      simp [encP, zig_zag]
    · simp only [List.length_append, List.length_replicate]; omega
theorem put_get {b : List UInt8} {n : Int} (h : (getI5 b n).2 = 0) : ((nS (getI5 b n).1).2.2.length : Int) = n ∧ putI5 (nS (getI5 b n).1).2.2 = b := by
  unfold getI5 at h ⊢
  split at h
  · exact absurd h (by decide)
  rename_i e
  rw [if_neg e]
  obtain ⟨c, hc⟩ : ∃ c, gG b n.toNat 0 [] = (c, 0) := ⟨(gG b n.toNat 0 []).1, Prod.ext rfl h⟩
  rw [hc]
  obtain ⟨h1, h2, h3⟩ := gI_back b n.toNat _ 0 [] c (fun x hx => by simp at hx) rfl (Nat.zero_le _) (Nat.zero_le _) hc
  obtain ⟨h4, h5⟩ := ch_nS h1
  refine ⟨by rw [nS_len]; show (c.length : Int) = n; omega, ?_⟩
  show putI5 (nS c).2.2 = b
  unfold putI5
  rw [runsM_is, h4]; exact h2.symm
/-! ### Even rows -/
def prog (v st : Int) : Nat → List Int
  | 0 => []
  | k + 1 => v :: prog (addI v st) st k
def itI (v st : Int) : Nat → Int
  | 0 => v
  | k + 1 => addI (itI v st k) st
theorem it_succ (v st : Int) : ∀ k, itI (addI v st) st k = itI v st (k + 1)
  | 0 => rfl
  | k + 1 => by rw [itI, it_succ v st k]; rfl
theorem prog_snoc (st : Int) : ∀ (k : Nat) (v : Int), prog v st (k + 1) = prog v st k ++ [itI v st k]
  | 0, v => rfl
  | k + 1, v => by
    rw [prog, prog_snoc st k (addI v st), it_succ]; rfl
theorem prog_len (v st : Int) : ∀ k, (prog v st k).length = k := by
  intro k
  induction k generalizing v with
  | zero => rfl
  | succ k ih => rw [prog, List.length_cons, ih]
theorem it_in {v st : Int} (hv : in64 v) : ∀ k, in64 (itI v st k)
  | 0 => hv
  | k + 1 => add_in _ _
theorem prog_in {st : Int} : ∀ (k : Nat) (v : Int), in64 v → ∀ x ∈ prog v st k, in64 x
  | 0, v, hv, x, hx => by simp [prog] at hx
  | k + 1, v, hv, x, hx => by
    rcases List.mem_cons.1 hx with rfl | hx
    · exact hv
    · exact prog_in k _ (add_in _ _) x hx
theorem wrap_self (a : Int) : wrapI a a = 0 := by unfold wrapI; rw [Int.sub_self]; rfl
theorem ch_even {st : Int} (h : in64 st) : ∀ (k : Nat) (v la : Int), wrapI v la = st → chI (prog v st k) la st = List.replicate k 0
  | 0, _, _, _ => rfl
  | k + 1, v, la, e => by
    rw [prog, chI, e, wrap_self, ch_even h k (addI v st) v (wrap_add h)]; rfl
theorem runsG_rep_le (d : Int) (k n : Nat) : (runsG (List.replicate k d) n d).length ≤ 1 := by
  have h := runsG_run k [] n d
  rw [List.append_nil] at h
  rw [h, runsG_end]
  split <;> simp
theorem runsG_rep_le2 (d : Int) (k n : Nat) (c : Int) : (runsG (List.replicate k d) n c).length ≤ 2 := by
  cases k with
  | zero => rw [List.replicate_zero, runsG_end]; split <;> simp
  | succ k =>
    rw [List.replicate_succ, runsG_cons]
    have h1 := runsG_rep_le d k 1
    have h2 := runsG_rep_le d k (n + 1)
    split
    · rw [List.length_cons]; omega
    · omega
theorem even_runs {v st : Int} (h : in64 st) (k : Nat) : (runsM (prog v st k)).length ≤ 3 := by
  rw [runsM_is]
  match k with
  | 0 => simp [prog, chI, runsG]
  | 1 =>
    have h1 := runsG_rep_le2 (wrapI (wrapI v 0) 0) 1 0 0
    show (runsG [wrapI (wrapI v 0) 0] 0 0).length ≤ 3
    rw [List.replicate_one] at h1
    omega
  | k + 2 =>
    rw [prog, prog, chI, chI, wrap_add h, ch_even h k _ _ (wrap_add h), runsG_cons, if_neg (fun h => Nat.lt_irrefl _ h.1), runsG_cons]
    have h1 := runsG_rep_le2 0 k 1 (wrapI st (wrapI v 0))
    have h2 := runsG_rep_le2 0 k (0 + 1 + 1) (wrapI st (wrapI v 0))
    split
    · rw [List.length_cons]; omega
    · omega
theorem exp_mem {p : Nat × Int} : ∀ {prs : List (Nat × Int)}, p ∈ prs → p.1 ≤ (expR prs).length
  | q :: prs, h => by
    rw [expR_cons, List.length_append, List.length_replicate]
    rcases List.mem_cons.1 h with rfl | h
    · omega
    · have := exp_mem h; omega
theorem even_put {v st : Int} (h : in64 st) {k : Nat} (hk : k ≤ 5000) : (putI5 (prog v st k)).length ≤ 36 := by
  have h3 := even_runs (v := v) h k
  have hlen := prog_len v st k
  have hok := runsM_ok (prog v st k) (by omega)
  have hm : ∀ p ∈ runsM (prog v st k), p.1 ≤ 5000 := fun p hp => by
    have h1 := exp_mem hp
    rw [runsM_is, exp_runsG] at h1
    simp only [List.length_append, List.length_replicate, chI_len] at h1
    omega
  have hall : ∀ l : List (Nat × Int), (∀ p ∈ l, okP p) → (∀ p ∈ l, p.1 ≤ 5000) → (l.flatMap encP).length ≤ 12 * l.length := by
    intro l
    induction l with
    | nil => intro _ _; simp
    | cons p l ih =>
      intro h1 h2
      have hp := h1 p (by simp)
      have i1 := ih (fun q hq => h1 q (by simp [hq])) fun q hq => h2 q (by simp [hq])
      have i2 : (encB p.1).length ≤ 2 := by rw [encB_len]; exact enc_len p.1 2 (by have := h2 p (by simp); omega) (by omega)
      have i3 := encB_len10 (zig_le hp.2.1 hp.2.2)
      rw [List.flatMap_cons, List.length_append, encP, List.length_append, List.length_cons]; omega
  have := hall _ hok hm
  unfold putI5; omega
theorem shift_back {x by' : Int} (hx : in64 x) : wrapI (addI x by') by' = x := by
  have h1 := add_mod x by'
  exact sgn_eq hx (by omega)
def mI (l : List Int) (y : Int) : List Int := l.map fun x => addI x y
theorem mI_len (l : List Int) (y : Int) : (mI l y).length = l.length := List.length_map _
theorem mI_in (l : List Int) (y : Int) : ∀ x ∈ mI l y, in64 x := fun x hx => by
  obtain ⟨z, _, rfl⟩ := List.mem_map.1 hx
  exact add_in _ _
theorem mI_step {l : List Int} {y : Int} {k : Nat} (h : k < l.length) : ((mI l y).take k).map I64 ++ [I64 (addI (l[k]) y)] = ((mI l y).take (k + 1)).map I64 := by
  rw [List.take_succ_eq_append_getElem (by rw [mI_len]; exact h)]
  simp [mI]
theorem putI5_len (l : List Int) (hl : l.length ≤ 1099511627775) : (putI5 l).length ≤ 20 * (l.length + 1) := by
  have h := runsF_ok l 0 0 0 0 (by omega) (by decide) (by decide)
  have h3 : (runsM l).length ≤ l.length + 1 := h.2
  have h1 : ∀ p ∈ runsM l, okP p := h.1
  have h2 := bytesP_len h1 (runsM l).length
  unfold bytesP at h2
  rw [List.take_length] at h2
  have h4 : (putI5 l).length ≤ 20 * (runsM l).length := h2
  omega
end Go.Proofs.Ytbdibcpenihpdaa
