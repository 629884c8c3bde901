/-
  Layer agg: parts make the whole: the states of an aggregate are put together as in a commutative monoid. Plain mathematics.
-/
import Derived.Test.YtpacdeiaimfiaaaO1
import Derived.Test.YtpacdeiaimfiaaaDlU
set_option linter.unusedSimpArgs false
set_option linter.unusedVariables false
namespace Go.Proofs.Ytpacdeiaimfiaaa
open Go.RowKit Go.DL

/-- What a state of an aggregate is, beside its cells. -/
structure CMod (op : UInt8) (α : Type) where
  f : α → α → α
  e : α
  st : α → St
  u : Pr → α
  feed : ∀ p x, feedM op p.1 p.2 (st x) = st (f (u p) x)
  add : ∀ x y, addM op (st x) (st y) = st (f x y)
  zero : st e = st0 op
  comm : ∀ x y, f x y = f y x
  assoc : ∀ x y z, f (f x y) z = f x (f y z)
  idl : ∀ x, f e x = x
namespace CMod
variable {op : UInt8} {α : Type} (M : CMod op α)
def prod (l : List Pr) : α := l.foldl (fun x p => M.f (M.u p) x) M.e
theorem foldl_st (M : CMod op α) : ∀ (l : List Pr) (x : α), l.foldl (fun s p => feedM op p.1 p.2 s) (M.st x) = M.st (l.foldl (fun x p => M.f (M.u p) x) x)
  | [], x => rfl
  | p :: l, x => by rw [List.foldl_cons, List.foldl_cons, M.feed]; exact foldl_st M l _
theorem foldF_eq (l : List Pr) : foldF op l = M.st (M.prod l) := by
  unfold foldF prod; rw [← M.zero]; exact foldl_st M l _
theorem foldl_prod (M : CMod op α) : ∀ (l : List Pr) (x : α), l.foldl (fun x p => M.f (M.u p) x) x = M.f (M.prod l) x
  | [], x => (M.idl x).symm
  | p :: l, x => by
    unfold prod
    rw [List.foldl_cons, List.foldl_cons, foldl_prod M l, foldl_prod M l (M.f (M.u p) M.e), M.comm (M.u p) M.e, M.idl, M.assoc]
theorem prod_app (a b : List Pr) : M.prod (a ++ b) = M.f (M.prod a) (M.prod b) := by
  show (a ++ b).foldl _ _ = _
  rw [List.foldl_append, foldl_prod M b, M.comm]; rfl
theorem prod_cons (p : Pr) (l : List Pr) : M.prod (p :: l) = M.f (M.u p) (M.prod l) := by
  show (p :: l).foldl _ _ = _
  rw [List.foldl_cons, foldl_prod M l, M.comm (M.u p) M.e, M.idl, M.comm]
theorem prod_rev (l : List Pr) : M.prod l.reverse = M.prod l := by
  induction l with
  | nil => rfl
  | cons p l ih => rw [List.reverse_cons, prod_app, ih, prod_cons, prod_cons, M.comm, M.comm (M.u p) (M.prod []), show M.prod [] = M.e from rfl, M.idl]
def FA (op : UInt8) (ps : List (List Pr)) : St := ps.foldl (fun s q => addM op (foldF op q) s) (st0 op)
theorem fa_from (M : CMod op α) : ∀ (ps : List (List Pr)) (x : α), ps.foldl (fun s q => addM op (foldF op q) s) (M.st x) = M.st (M.f (M.prod ps.flatten) x)
  | [], x => by rw [List.flatten_nil]; exact congrArg M.st (M.idl x).symm
  | q :: ps, x => by
    rw [List.foldl_cons, M.foldF_eq, M.add, fa_from M ps, List.flatten_cons, prod_app, M.comm (M.prod q) (M.prod ps.flatten), M.assoc]
theorem fa_eq (M : CMod op α) (ps : List (List Pr)) : FA op ps = foldF op ps.flatten := by
  unfold FA
  rw [← M.zero, fa_from, M.foldF_eq, M.comm, M.idl]
theorem prod_flat_rev (ps : List (List Pr)) : M.prod ps.reverse.flatten = M.prod ps.flatten := by
  induction ps with
  | nil => rfl
  | cons q ps ih => rw [List.reverse_cons, List.flatten_append, prod_app, ih, List.flatten_cons, List.flatten_nil, List.append_nil, List.flatten_cons, prod_app, M.comm]
theorem fa_rev (M : CMod op α) (ps : List (List Pr)) : FA op ps.reverse = foldF op ps.flatten := by
  rw [M.fa_eq, M.foldF_eq, M.foldF_eq, prod_flat_rev]
theorem fold_rev (M : CMod op α) (l : List Pr) : foldF op l.reverse = foldF op l := by rw [M.foldF_eq, M.foldF_eq, prod_rev]
end CMod
/-! ### Counts and sums -/
def stS (op : UInt8) (x : Nat × Int) : St := ⟨op, x.1, x.2, false, z0, z0⟩
def dS (op : UInt8) (p : Pr) : Nat × Int := if op = 21 then (1, 0) else if op = 22 then (if p.1.k = 0 then (0, 0) else (1, 0)) else (if p.1.k = 2 then (1, p.1.i) else (0, 0))
def modS (op : UInt8) (h : op = 21 ∨ op = 22 ∨ op = 23 ∨ op = 26) : CMod op (Nat × Int) where
  f x y := (x.1 + y.1, x.2 + y.2)
  e := (0, 0)
  st := stS op
  u := dS op
  feed p x := by
    obtain ⟨n, z⟩ := x
    rcases h with rfl | rfl | rfl | rfl
    · show moreM 1 0 _ = _; simp [moreM, stS, dS]; omega
    · show (if p.1.k = 0 then _ else moreM 1 0 _) = _
      by_cases hk : p.1.k = 0
      · simp [hk, moreM, stS, dS]
      · simp [hk, moreM, stS, dS]; omega
    · show (if p.1.k = 2 then moreM 1 p.1.i _ else _) = _
      by_cases hk : p.1.k = 2
      · simp [hk, moreM, stS, dS]; omega
      · simp [hk, moreM, stS, dS]
    · show (if p.1.k = 2 then moreM 1 p.1.i _ else _) = _
      by_cases hk : p.1.k = 2
      · simp [hk, moreM, stS, dS]; omega
      · simp [hk, moreM, stS, dS]
  add x y := by
    rcases h with rfl | rfl | rfl | rfl
    all_goals (show moreM x.1 x.2 _ = _; simp [moreM, stS]; omega)
  zero := rfl
  comm x y := by simp; omega
  assoc x y z := by simp; omega
  idl x := by simp
/-! ### What is kept -/
abbrev Ky := Val × Val
abbrev cK : Ky → Ky → Int := lexC cmpV cmpV
theorem ordK : Ord3 cK := lex_ord ordV ordV
def stP (op : UInt8) : Option Ky → St
  | none => st0 op
  | some x => ⟨op, 0, 0, true, x.2, x.1⟩
def uP (op : UInt8) (p : Pr) : Option Ky := if op = 24 ∨ op = 25 then (if p.1.k = 0 then none else some (z0, p.1)) else (if p.2.k = 2 then some (p.2, p.1) else none)
def jo (d : Int) : Option Ky → Option Ky → Option Ky
  | none, y => y
  | some a, none => some a
  | some a, some b => some (if cK a b = d then a else b)
theorem pick_P (op : UInt8) (d : Int) (a b : Val) (o : Option Ky) : pickM d a b (stP op o) = stP op (jo d (some (b, a)) o) := by
  cases o with
  | none => exact pick_yes (.inl rfl)
  | some y =>
    have e : (if cmpV b (stP op (some y)).by' = 0 then cmpV a (stP op (some y)).best else cmpV b (stP op (some y)).by') = cK (b, a) y := by
      show (if cmpV b y.1 = 0 then cmpV a y.2 else cmpV b y.1) = if cmpV b y.1 ≠ 0 then cmpV b y.1 else cmpV a y.2
      by_cases h : cmpV b y.1 = 0 <;> simp [h]
    by_cases hc : cK (b, a) y = d
    · rw [pick_yes (.inr (e.trans hc))]
      show _ = stP op (some (if cK (b, a) y = d then (b, a) else y))
      rw [if_pos hc]; rfl
    · rw [pick_no (by rw [e]; rintro (h | h); cases h; exact hc h)]
      show _ = stP op (some (if cK (b, a) y = d then (b, a) else y))
      rw [if_neg hc]
theorem jo_comm {d : Int} (hd : d = -1 ∨ d = 1) : ∀ x y : Option Ky, jo d x y = jo d y x
  | none, none => rfl
  | none, some _ => rfl
  | some _, none => rfl
  | some a, some b => by
    show some _ = some _
    congr 1
    rcases ordK.val a b with h | h | h
    · have h2 := (ordK.neg a b).1 h
      rcases hd with rfl | rfl
      · rw [if_pos h, if_neg (by rw [h2]; decide)]
      · rw [if_neg (by rw [h]; decide), if_pos h2]
    · have := (ordK.eq a b).1 h
      subst this; rfl
    · have h2 := (ordK.neg b a).2 h
      rcases hd with rfl | rfl
      · rw [if_neg (by rw [h]; decide), if_pos h2]
      · rw [if_pos h, if_neg (by rw [h2]; decide)]
theorem jo_assoc {d : Int} (hd : d = -1 ∨ d = 1) : ∀ x y z : Option Ky, jo d (jo d x y) z = jo d x (jo d y z)
  | none, _, _ => by simp [jo]
  | some _, none, _ => by simp [jo]
  | some a, some b, none => by simp [jo]
  | some a, some b, some c => by
    simp only [jo]
    congr 1
    by_cases h1 : cK a b = d <;> by_cases h2 : cK b c = d
    · rw [if_pos h1, if_pos h2, if_pos (ordK.trd hd h1 h2), if_pos h1]
    · rw [if_pos h1, if_neg h2]
    · rw [if_neg h1, if_pos h2, if_neg h1]
    · rw [if_neg h1, if_neg h2]
      by_cases h3 : cK a c = d
      · exfalso
        rcases ordK.val b c with h | h | h
        · rcases hd with rfl | rfl
          · exact h2 h
          · exact h1 (ordK.trd (.inr rfl) h3 ((ordK.neg b c).1 h))
        · have := (ordK.eq b c).1 h
          subst this; exact h1 h3
        · rcases hd with rfl | rfl
          · exact h1 (ordK.trd (.inl rfl) h3 ((ordK.neg c b).2 h))
          · exact h2 h
      · rw [if_neg h3]
def dP (op : UInt8) : Int := if op = 24 ∨ op = 27 then -1 else 1
theorem dP_or (op : UInt8) : dP op = -1 ∨ dP op = 1 := by unfold dP; split; exact .inl rfl; exact .inr rfl
def modP (op : UInt8) (h : op = 24 ∨ op = 25 ∨ op = 27 ∨ op = 28) : CMod op (Option Ky) where
  f := jo (dP op)
  e := none
  st := stP op
  u := uP op
  feed p x := by
    rcases h with rfl | rfl | rfl | rfl
    · show (if p.1.k = 0 then _ else pickM (-1) p.1 z0 _) = stP 24 (jo (-1) (if p.1.k = 0 then none else some (z0, p.1)) x)
      by_cases hk : p.1.k = 0
      · rw [if_pos hk, if_pos hk]; rfl
      · rw [if_neg hk, if_neg hk]; exact pick_P _ _ _ _ _
    · show (if p.1.k = 0 then _ else pickM 1 p.1 z0 _) = stP 25 (jo 1 (if p.1.k = 0 then none else some (z0, p.1)) x)
      by_cases hk : p.1.k = 0
      · rw [if_pos hk, if_pos hk]; rfl
      · rw [if_neg hk, if_neg hk]; exact pick_P _ _ _ _ _
    · show (if p.2.k = 2 then pickM (-1) p.1 p.2 _ else _) = stP 27 (jo (-1) (if p.2.k = 2 then some (p.2, p.1) else none) x)
      by_cases hk : p.2.k = 2
      · rw [if_pos hk, if_pos hk]; exact pick_P _ _ _ _ _
      · rw [if_neg hk, if_neg hk]; rfl
    · show (if p.2.k = 2 then pickM 1 p.1 p.2 _ else _) = stP 28 (jo 1 (if p.2.k = 2 then some (p.2, p.1) else none) x)
      by_cases hk : p.2.k = 2
      · rw [if_pos hk, if_pos hk]; exact pick_P _ _ _ _ _
      · rw [if_neg hk, if_neg hk]; rfl
  add x y := by
    cases x with
    | none => rcases h with rfl | rfl | rfl | rfl <;> rfl
    | some a => rcases h with rfl | rfl | rfl | rfl <;> exact pick_P _ _ _ _ _
  zero := rfl
  comm := jo_comm (dP_or op)
  assoc := jo_assoc (dP_or op)
  idl x := rfl
theorem parts_all {op : UInt8} (hc : aggB op = true) (ps : List (List Pr)) (l : List Pr) : CMod.FA op ps = foldF op ps.flatten ∧ CMod.FA op ps.reverse = foldF op ps.flatten ∧ foldF op l.reverse = foldF op l := by
  have go : ∀ {α : Type}, CMod op α → CMod.FA op ps = foldF op ps.flatten ∧ CMod.FA op ps.reverse = foldF op ps.flatten ∧ foldF op l.reverse = foldF op l := fun M => ⟨M.fa_eq ps, M.fa_rev ps, M.fold_rev l⟩
  rcases aggB_cases hc with h | h | h | h | h | h | h | h
  · exact go (modS op (.inl h))
  · exact go (modS op (.inr (.inl h)))
  · exact go (modS op (.inr (.inr (.inl h))))
  · exact go (modS op (.inr (.inr (.inr h))))
  · exact go (modP op (.inl h))
  · exact go (modP op (.inr (.inl h)))
  · exact go (modP op (.inr (.inr (.inl h))))
  · exact go (modP op (.inr (.inr (.inr h))))
end Go.Proofs.Ytpacdeiaimfiaaa
