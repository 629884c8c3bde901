/-
  Layer key: a row's bytes are read as the row; what is read has just those bytes; rows stand as their bytes do: the model alone. No condition.
-/
import Derived.Test.YtmkljbcjgobjfaaK15
set_option linter.unusedSimpArgs false
set_option linter.unusedVariables false
namespace Go.Proofs.Ytmkljbcjgobjfaa
open Go.RowKit Go.DL

def okI (v : Val) : Prop := -9223372036854775808 ≤ v.i ∧ v.i ≤ 9223372036854775807
theorem okI_of {v : Val} {i : Int} (h : v.i = i) (h1 : -9223372036854775808 ≤ i) (h2 : i ≤ 9223372036854775807) : okI v := ⟨h ▸ h1, h ▸ h2⟩
theorem byte_eq {a b : UInt8} (h : a.toNat = b.toNat) : a = b := UInt8.toNat_inj.1 h
/-- What may be, by its kind. -/
theorem may_cases {v : Val} (h : mayM v = true) : v = ⟨0, 0, []⟩ ∨ (v = ⟨1, 0, []⟩ ∨ v = ⟨1, 1, []⟩) ∨ (∃ i, v = ⟨2, i, []⟩) ∨ ∃ t, v = ⟨3, 0, t⟩ := by
  by_cases h1 : v = ⟨0, 0, []⟩
  · exact .inl h1
  by_cases h2 : (¬ v.k = 1 ∨ ¬ v.t = []) ∨ ¬ v.i = 0 ∧ ¬ v.i = 1
  · by_cases h3 : ¬ v.k = 2 ∨ ¬ v.t = []
    · by_cases h4 : ¬ v.k = 3 ∨ ¬ v.i = 0
      · rw [caseE h1 h2 h3 h4] at h; cases h
      · obtain ⟨k, i, t⟩ := v
        simp only [not_or, Decidable.not_not] at h4
        obtain ⟨rfl, rfl⟩ := h4
        exact .inr (.inr (.inr ⟨t, rfl⟩))
    · obtain ⟨k, i, t⟩ := v
      simp only [not_or, Decidable.not_not] at h3
      obtain ⟨rfl, rfl⟩ := h3
      exact .inr (.inr (.inl ⟨i, rfl⟩))
  · obtain ⟨k, i, t⟩ := v
    simp only [not_or, not_and, Decidable.not_not] at h2
    obtain ⟨⟨rfl, rfl⟩, h3⟩ := h2
    by_cases h0 : i = 0
    · subst h0; exact .inr (.inl (.inl rfl))
    · obtain rfl := h3 h0; exact .inr (.inl (.inr rfl))
theorem one_ne (v : Val) : oneM v ≠ [] := by unfold oneM; exact List.cons_ne_nil _ _
theorem one_pos (v : Val) : 1 ≤ (oneM v).length := by unfold oneM; rw [List.length_cons]; omega
theorem one_int (i : Int) : oneM ⟨2, i, []⟩ = 3 :: hi8 (keyI i) := rfl
theorem one_text (t : List UInt8) : oneM ⟨3, 0, t⟩ = 4 :: (escM t ++ [0, 1]) := rfl
theorem oneP_at (c : UInt8) (w : List UInt8) (hc : lookB c = true) : oneP (c :: w) = oneC c (c :: w) := if_pos hc
theorem one_front {v : Val} (hm : mayM v = true) (ho : okI v) (r : List UInt8) : oneP (oneM v ++ r) = .ok (v, (oneM v).length) := by
  rcases may_cases hm with rfl | (rfl | rfl) | ⟨i, rfl⟩ | ⟨t, rfl⟩
  · rfl
  · show boolM (2 :: 0 :: r) = _
    unfold boolM; rw [if_neg (by simp)]; rfl
  · show boolM (2 :: 1 :: r) = _
    unfold boolM; rw [if_neg (by simp)]; rfl
  · rw [one_int]
    show intM (3 :: (hi8 (keyI i) ++ r)) = _
    unfold intM
    rw [if_neg (by rw [List.length_cons, List.length_append, hi8_len]; omega), show (List.drop 1 (3 :: (hi8 (keyI i) ++ r))).take 8 = hi8 (keyI i) from by
      show (hi8 (keyI i) ++ r).take 8 = _
      rw [List.take_append_of_le_length (by rw [hi8_len]; omega), List.take_of_length_le (by rw [hi8_len]; omega)], numU_hi (keyI_lt i), unI_key ho.1 ho.2, List.length_cons, hi8_len]
  · rw [one_text]
    show textR (4 :: (escM t ++ [0, 1] ++ r)) = _
    unfold textR
    show (textM (escM t ++ [0, 1] ++ r)).map _ = _
    rw [text_esc]
    show Except.ok _ = _
    simp
theorem front_one {b : List UInt8} {v : Val} {n : Nat} (h0 : 0 < b.length) (h : oneP b = .ok (v, n)) : mayM v = true ∧ okI v ∧ oneM v = b.take n := by
  obtain ⟨h1, h2⟩ := oneP_ok h
  cases b with
  | nil => cases h0
  | cons c w =>
    have h1 : oneC c (c :: w) = .ok (v, n) := h1
    have h2 : lookB c = true := h2
    unfold lookB at h2
    simp only [Bool.or_eq_true, decide_eq_true_eq] at h2
    rcases h2 with rfl | rfl | rfl | rfl
    · have h1 : nullM = .ok (v, n) := h1
      cases h1; exact ⟨rfl, okI_of (i := 0) rfl (by decide) (by decide), rfl⟩
    · have h1 : boolM (2 :: w) = .ok (v, n) := h1
      unfold boolM at h1
      split at h1
      · cases h1
      split at h1
      · cases h1
      rename_i hl hg
      cases w with
      | nil => simp at hl
      | cons d w =>
        have hg : ¬ 1 < d.toNat := hg
        cases h1
        have hd : d = 0 ∨ d = 1 := by
          rcases (by omega : d.toNat = 0 ∨ d.toNat = 1) with h | h
          · exact .inl (byte_eq h)
          · exact .inr (byte_eq h)
        rcases hd with rfl | rfl
        · exact ⟨rfl, okI_of (i := 0) rfl (by decide) (by decide), rfl⟩
        · exact ⟨rfl, okI_of (i := 1) rfl (by decide) (by decide), rfl⟩
    · have h1 : intM (3 :: w) = .ok (v, n) := h1
      unfold intM at h1
      split at h1
      · cases h1
      rename_i hl
      cases h1
      have hw : (w.take 8).length = 8 := by rw [List.length_cons] at hl; rw [List.length_take]; omega
      have hu : numU (w.take 8) < 18446744073709551616 := num_lt8 w 8 (by rw [List.length_take] at hw; omega) (by omega)
      have hd : (List.drop 1 (3 :: w)).take 8 = w.take 8 := rfl
      rw [hd]
      have hr := unI_rng (numU (w.take 8))
      have hk := key_unI hu
      generalize unI (numU (w.take 8)) = i at hk hr ⊢
      refine ⟨rfl, ⟨hr.1, hr.2⟩, ?_⟩
      rw [one_int, hk, hi_num hw]
      show _ = (3 :: w).take (8 + 1)
      rw [List.take_succ_cons]
    · have h1 : textR (4 :: w) = .ok (v, n) := h1
      unfold textR at h1
      have h1 : (textM w).map _ = _ := h1
      cases h2 : textM w with
      | error e => rw [h2] at h1; cases h1
      | ok p =>
        rw [h2] at h1
        cases h1
        refine ⟨rfl, okI_of (i := 0) rfl (by decide) (by decide), ?_⟩
        rw [one_text, text_back w p.1 p.2 h2]; rfl

/-! ### Rows -/
def flat (l : List Val) : List UInt8 := l.flatMap oneM
theorem flat_cons (v : Val) (l : List Val) : flat (v :: l) = oneM v ++ flat l := rfl
theorem flat_app (l m : List Val) : flat (l ++ m) = flat l ++ flat m := List.flatMap_append
theorem parse_flat : ∀ (l : List Val) (z : List UInt8), l.all mayM = true → (∀ v ∈ l, okI v) → parseM (flat l ++ z) = addL l (parseM z)
  | [], z, _, _ => by show parseM z = _; cases parseM z <;> rfl
  | v :: l, z, hm, ho => by
    rw [List.all_cons, Bool.and_eq_true] at hm
    have ih := parse_flat l z hm.2 fun x hx => ho x (List.mem_cons_of_mem _ hx)
    rw [flat_cons, List.append_assoc]
    have h0 := one_pos v
    rw [parse_ok (by rw [List.length_append]; omega) (one_front hm.1 (ho v List.mem_cons_self) _) h0, List.drop_left, ih, addL_addL]; rfl
theorem parse_row {l : List Val} (hm : l.all mayM = true) (ho : ∀ v ∈ l, okI v) : parseM (flat l) = .ok l := by
  have := parse_flat l [] hm ho
  rw [List.append_nil, parse_nil (b := []) rfl] at this
  rw [this]
  show Except.ok (l ++ []) = _
  rw [List.append_nil]
theorem flat_parse : ∀ (n : Nat) (b : List UInt8) (l : List Val), b.length ≤ n → parseM b = .ok l → l.all mayM = true ∧ (∀ v ∈ l, okI v) ∧ flat l = b
  | n, b, l, hn, h => by
    rcases Nat.eq_zero_or_pos b.length with h0 | h0
    · rw [parse_nil h0] at h
      cases h
      exact ⟨rfl, by simp, (List.eq_nil_of_length_eq_zero h0).symm⟩
    cases ho : oneP b with
    | error e => rw [parse_err h0 ho] at h; cases h
    | ok p =>
      obtain ⟨v, k⟩ := p
      have h1 := front_one h0 ho
      have h2 := oneC_bound h0 (oneP_ok ho).1
      rw [parse_ok h0 ho h2.1] at h
      have hl : (b.drop k).length = b.length - k := List.length_drop
      match n, hn with
      | 0, hn => omega
      | n + 1, hn =>
        cases hp : parseM (b.drop k) with
        | error e => rw [hp] at h; cases h
        | ok m =>
          have ih := flat_parse n (b.drop k) m (by omega) hp
          rw [hp] at h
          cases h
          refine ⟨?_, ?_, ?_⟩
          · show (v :: m).all mayM = true
            rw [List.all_cons, h1.1, ih.1]; rfl
          · intro x hx
            rcases List.mem_cons.1 hx with rfl | hx
            · exact h1.2.1
            · exact ih.2.1 x hx
          · show oneM v ++ flat m = b
            rw [h1.2.2, ih.2.2, List.take_append_drop]

/-! ### The order of values, and of rows -/
theorem less_parts {v w : Val} (hv : mayM v = true) (hw : mayM w = true) (ov : okI v) (ow : okI w) (h : lessM v w = true) : parts (oneM v) (oneM w) := by
  have kinds : ∀ x : Val, mayM x = true → x.k.toNat ≤ 3 := by
    intro x hx
    rcases may_cases hx with rfl | (rfl | rfl) | ⟨i, rfl⟩ | ⟨t, rfl⟩ <;> exact Nat.le_of_ble_eq_true rfl
  have kv := kinds v hv
  have kw := kinds w hw
  by_cases hk : v.k = w.k
  · have h : (bif v.k == 3 then bless v.t w.t else decide (v.i < w.i)) = true := by
      unfold lessM at h
      rwa [show (v.k != w.k) = false by simp [hk]] at h
    rcases may_cases hv with rfl | hv | ⟨i, rfl⟩ | ⟨t, rfl⟩
    · rcases may_cases hw with rfl | (rfl | rfl) | ⟨j, rfl⟩ | ⟨u, rfl⟩
      · cases h
      all_goals exact absurd hk (by simp)
    · have hi : decide (v.i < w.i) = true := by rcases hv with rfl | rfl <;> exact h
      have hi : v.i < w.i := of_decide_eq_true hi
      rcases may_cases hw with rfl | hw | ⟨j, rfl⟩ | ⟨u, rfl⟩
      · exact absurd hk (by rcases hv with rfl | rfl <;> simp)
      · rcases hv with rfl | rfl <;> rcases hw with rfl | rfl
        · exact absurd hi (by simp)
        · exact ⟨[2], 0, 1, [], [], rfl, rfl, by decide⟩
        · exact absurd hi (by simp)
        · exact absurd hi (by simp)
      · exact absurd hk (by rcases hv with rfl | rfl <;> simp)
      · exact absurd hk (by rcases hv with rfl | rfl <;> simp)
    · have hi : i < w.i := of_decide_eq_true h
      rcases may_cases hw with rfl | (rfl | rfl) | ⟨j, rfl⟩ | ⟨u, rfl⟩
      · exact absurd hk (by simp)
      · exact absurd hk (by simp)
      · exact absurd hk (by simp)
      · rw [one_int, one_int, hiN8, hiN8]
        refine (hiN_parts 8 _ _ ?_).pre [3]
        rw [show 256 ^ 8 = 18446744073709551616 by rfl, Nat.mod_eq_of_lt (keyI_lt i), Nat.mod_eq_of_lt (keyI_lt j)]
        exact keyI_lt_iff ov.1 ov.2 ow.1 ow.2 hi
      · exact absurd hk (by simp)
    · rcases may_cases hw with rfl | (rfl | rfl) | ⟨j, rfl⟩ | ⟨u, rfl⟩
      · exact absurd hk (by simp)
      · exact absurd hk (by simp)
      · exact absurd hk (by simp)
      · exact absurd hk (by simp)
      · rw [one_text, one_text]
        exact (esc_parts t u h).pre [4]
  · have h : decide (v.k.toNat < w.k.toNat) = true := by
      unfold lessM at h
      rwa [show (v.k != w.k) = true by simp [hk]] at h
    have h := of_decide_eq_true h
    refine parts.at _ _ ?_
    rw [UInt8.toNat_add, UInt8.toNat_add]
    show (v.k.toNat + 1) % 256 < (w.k.toNat + 1) % 256
    omega
theorem less_total {v w : Val} (hv : mayM v = true) (hw : mayM w = true) (hne : v ≠ w) (h : lessM v w = false) : lessM w v = true := by
  by_cases hk : v.k = w.k
  · have h : (bif v.k == 3 then bless v.t w.t else decide (v.i < w.i)) = false := by
      unfold lessM at h
      rwa [show (v.k != w.k) = false by simp [hk]] at h
    unfold lessM
    rw [show (w.k != v.k) = false by simp [hk]]
    show (bif w.k == 3 then bless w.t v.t else decide (w.i < v.i)) = true
    rw [← hk]
    cases h3 : v.k == 3 with
    | true =>
      rw [h3] at h
      have e3 : v.k = 3 := by simpa using h3
      rcases bless_total v.t w.t h with e | e
      · exfalso
        apply hne
        rcases may_cases hv with rfl | (rfl | rfl) | ⟨i, rfl⟩ | ⟨t, rfl⟩
        iterate 4 exact absurd e3 (by simp)
        rcases may_cases hw with rfl | (rfl | rfl) | ⟨j, rfl⟩ | ⟨u, rfl⟩
        iterate 4 exact absurd hk (by simp)
        have e : t = u := e
        rw [e]
      · exact e
    | false =>
      rw [h3] at h
      have hi : ¬ v.i < w.i := of_decide_eq_false h
      refine decide_eq_true ?_
      have hne' : v.i ≠ w.i := by
        intro e
        apply hne
        obtain ⟨k, i, t⟩ := v
        obtain ⟨k', i', t'⟩ := w
        simp only at hk e
        subst hk e
        have : ∀ x : Val, mayM x = true → (x.k == 3) = false → x.t = [] := by
          intro x hx h3
          rcases may_cases hx with rfl | (rfl | rfl) | ⟨i, rfl⟩ | ⟨t, rfl⟩
          iterate 4 rfl
          cases h3
        rw [show t = [] from this _ hv h3, show t' = [] from this _ hw h3]
      omega
  · have h : decide (v.k.toNat < w.k.toNat) = false := by
      unfold lessM at h
      rwa [show (v.k != w.k) = true by simp [hk]] at h
    have h := of_decide_eq_false h
    unfold lessM
    rw [show (w.k != v.k) = true by simp [Ne.symm hk]]
    refine decide_eq_true ?_
    have : v.k.toNat ≠ w.k.toNat := fun e => hk (byte_eq e)
    omega
theorem rows_lt : ∀ a b : List Val, a.all mayM = true → b.all mayM = true → (∀ v ∈ a, okI v) → (∀ v ∈ b, okI v) → rowsM a b = true → bless (flat a) (flat b) = true
  | [], [], _, _, _, _, h => by cases h
  | [], w :: m, _, _, _, _, _ => by
    rw [flat_cons]
    cases hc : oneM w with
    | nil => exact absurd hc (one_ne w)
    | cons c s => rfl
  | _ :: _, [], _, _, _, _, h => by cases h
  | v :: l, w :: m, ha, hb, oa, ob, h => by
    rw [List.all_cons, Bool.and_eq_true] at ha hb
    rw [flat_cons, flat_cons]
    have h : (bif decide (v = w) then rowsM l m else lessM v w) = true := h
    by_cases e : v = w
    · subst e
      rw [decide_eq_true rfl] at h
      rw [bless_app]
      exact rows_lt l m ha.2 hb.2 (fun x hx => oa x (List.mem_cons_of_mem _ hx)) (fun x hx => ob x (List.mem_cons_of_mem _ hx)) h
    · rw [decide_eq_false e] at h
      exact (less_parts ha.1 hb.1 (oa v List.mem_cons_self) (ob w List.mem_cons_self) h).app _ _
theorem rows_total : ∀ a b : List Val, a.all mayM = true → b.all mayM = true → rowsM a b = false → a = b ∨ rowsM b a = true
  | [], [], _, _, _ => .inl rfl
  | [], _ :: _, _, _, h => by cases h
  | _ :: _, [], _, _, _ => .inr rfl
  | v :: l, w :: m, ha, hb, h => by
    rw [List.all_cons, Bool.and_eq_true] at ha hb
    have h : (bif decide (v = w) then rowsM l m else lessM v w) = false := h
    by_cases e : v = w
    · subst e
      rw [decide_eq_true rfl] at h
      rcases rows_total l m ha.2 hb.2 h with rfl | h2
      · exact .inl rfl
      · right
        show (bif decide (v = v) then rowsM m l else lessM v v) = true
        rw [decide_eq_true rfl]; exact h2
    · right
      rw [decide_eq_false e] at h
      show (bif decide (w = v) then rowsM m l else lessM w v) = true
      rw [decide_eq_false (Ne.symm e)]
      exact less_total ha.1 hb.1 e h
theorem rows_bless {a b : List Val} (ha : a.all mayM = true) (hb : b.all mayM = true) (oa : ∀ v ∈ a, okI v) (ob : ∀ v ∈ b, okI v) : bless (flat a) (flat b) = rowsM a b := by
  cases h : rowsM a b with
  | true => exact rows_lt a b ha hb oa ob h
  | false =>
    rcases rows_total a b ha hb h with rfl | h2
    · exact bless_self _
    · exact bless_asymm _ _ (rows_lt b a hb ha ob oa h2)
theorem flat_inj {a b : List Val} (ha : a.all mayM = true) (hb : b.all mayM = true) (oa : ∀ v ∈ a, okI v) (ob : ∀ v ∈ b, okI v) : (flat a == flat b) = decide (a = b) := by
  rw [Bool.eq_iff_iff, beq_iff_eq, decide_eq_true_eq]
  refine ⟨fun h => ?_, fun h => by rw [h]⟩
  have h1 := parse_row ha oa
  rw [h, parse_row hb ob] at h1
  cases h1; rfl
theorem between : ∀ x y : List UInt8, bless y x = false → bless y (x ++ [255]) = true → ∃ z, y = x ++ z
  | [], y, _, _ => ⟨y, rfl⟩
  | c :: x, [], h, _ => by cases h
  | c :: x, d :: y, h1, h2 => by
    have g1 : (decide (d < c) || (d == c && bless y x)) = false := h1
    have g2 : (decide (d < c) || (d == c && bless y (x ++ [255]))) = true := h2
    clear h1 h2
    rw [Bool.or_eq_false_iff, Bool.and_eq_false_iff] at g1
    rw [g1.1, Bool.false_or, Bool.and_eq_true, beq_iff_eq] at g2
    obtain ⟨rfl, h2⟩ := g2
    rcases g1.2 with h3 | h3
    · simp at h3
    · obtain ⟨z, rfl⟩ := between x y h3 h2
      exact ⟨z, rfl⟩
theorem flat_head {l : List Val} (hm : l.all mayM = true) : bless (flat l) [255] = true := by
  cases l with
  | nil => rfl
  | cons v l =>
    rw [List.all_cons, Bool.and_eq_true] at hm
    have hk : v.k.toNat ≤ 3 := by rcases may_cases hm.1 with rfl | (rfl | rfl) | ⟨i, rfl⟩ | ⟨t, rfl⟩ <;> exact Nat.le_of_ble_eq_true rfl
    show (decide (v.k + 1 < 255) || _) = true
    rw [decide_eq_true (show v.k + 1 < 255 by
      show (v.k + 1).toNat < (255 : UInt8).toNat
      rw [UInt8.toNat_add]
      show (v.k.toNat + 1) % 256 < 255
      omega)]; rfl
/-- A row begins with another one just if its bytes stand between that one's and After. -/
theorem begins_in {a b : List Val} (ha : a.all mayM = true) (hb : b.all mayM = true) (oa : ∀ v ∈ a, okI v) (ob : ∀ v ∈ b, okI v) :
    ((!bless (flat b) (flat a)) && bless (flat b) (flat a ++ [255])) = true ↔ ∃ c, b = a ++ c := by
  rw [Bool.and_eq_true, Bool.not_eq_true']
  constructor
  · rintro ⟨h1, h2⟩
    obtain ⟨z, hz⟩ := between _ _ h1 h2
    have hp := parse_row hb ob
    rw [hz, parse_flat a z ha oa] at hp
    cases hq : parseM z with
    | error e => rw [hq] at hp; cases hp
    | ok m => rw [hq] at hp; cases hp; exact ⟨m, rfl⟩
  · rintro ⟨c, rfl⟩
    rw [List.all_append, Bool.and_eq_true] at hb
    rw [flat_app]
    refine ⟨?_, ?_⟩
    · have := bless_app (flat a) (flat c) []
      rw [List.append_nil] at this
      rw [this, bless_nil]
    · rw [bless_app]; exact flat_head hb.2
end Go.Proofs.Ytmkljbcjgobjfaa
