/-
  Layer row: what is put is got, what is got is put; cuts. Pure. No condition.
-/
import Derived.Test.YtbdibcpenihpdaaR7
import Derived.Test.YtbdibcpenihpdaaDlU
set_option linter.unusedSimpArgs false
set_option linter.unusedVariables false
namespace Go.Proofs.Ytbdibcpenihpdaa
open Go.RowKit Go.DL

/-! ### A varint cut short -/
theorem enc_more (u : Nat) : ∀ i, i + 1 < (enc u).length → 128 ≤ (enc u).getD i 0 := by
  induction u using Nat.strongRecOn with
  | _ u ih =>
    intro i h
    by_cases hu : 128 ≤ u
    · rw [enc_big hu] at h ⊢
      match i with
      | 0 => show 128 ≤ u % 128 + 128; omega
      | i + 1 => exact ih (u / 128) (by omega) i (by simpa using h)
    · rw [enc_small (by omega)] at h
      simp at h
theorem vget_cut {u c : Nat} (hu : u ≤ 18446744073709551615) (h : c < (encB u).length) : vget ((encB u).take c) = (0, 0, 20) := by
  have hn : nats ((encB u).take c) = (enc u).take c := by
    unfold nats; rw [List.map_take]; exact congrArg (List.take c) (nats_enc u)
  have hl : (enc u).length ≤ 10 := enc_len10 u hu
  rw [encB_len] at h
  unfold vget
  rw [hn, getF_from c (by omega) (fun i hi => ?_), getF_end _ _ _ (by omega) (by rw [List.length_take]; omega)]
  refine ⟨by rw [List.length_take]; omega, ?_⟩
  have := enc_more u i (by omega)
  rw [List.getD_eq_getElem?_getD, List.getElem?_take, if_pos hi, ← List.getD_eq_getElem?_getD]
  exact this

/-! ### One value -/
theorem may_cases {v : Val} (h : mayM v = true) : v = ⟨0, 0, []⟩ ∨ (v = ⟨1, 0, []⟩ ∨ v = ⟨1, 1, []⟩) ∨ (∃ i, v = ⟨2, i, []⟩) ∨ ∃ t, v = ⟨3, 0, t⟩ := by
  obtain ⟨k, i, t⟩ := v
  unfold mayM at h
  simp only [Bool.and_eq_true, Bool.not_eq_true', Bool.or_eq_false_iff, Bool.or_eq_true, decide_eq_false_iff_not, decide_eq_true_eq, Bool.and_eq_false_iff, bne_eq_false_iff_eq, Bool.not_eq_false', beq_iff_eq] at h
  obtain ⟨⟨hk, ht⟩, hi⟩ := h
  have hk : k.toNat ≤ 3 := Nat.not_lt.1 hk
  have ek : k = 0 ∨ k = 1 ∨ k = 2 ∨ k = 3 := by
    rcases (by omega : k.toNat = 0 ∨ k.toNat = 1 ∨ k.toNat = 2 ∨ k.toNat = 3) with e | e | e | e
    · exact .inl (UInt8.toNat_inj.1 e)
    · exact .inr (.inl (UInt8.toNat_inj.1 e))
    · exact .inr (.inr (.inl (UInt8.toNat_inj.1 e)))
    · exact .inr (.inr (.inr (UInt8.toNat_inj.1 e)))
  rcases ek with rfl | rfl | rfl | rfl
  · have ht : t = [] := ht.resolve_left (by decide)
    have hi : i = 0 := by rcases hi with (hi | hi) | hi; exact absurd hi (by decide); exact hi; exact absurd hi.1 (by decide)
    subst ht hi; exact .inl rfl
  · have ht : t = [] := ht.resolve_left (by decide)
    subst ht
    rcases hi with (hi | hi) | hi
    · exact absurd hi (by decide)
    · subst hi; exact .inr (.inl (.inl rfl))
    · have hi := hi.2
      subst hi; exact .inr (.inl (.inr rfl))
  · have ht : t = [] := ht.resolve_left (by decide)
    subst ht; exact .inr (.inr (.inl ⟨i, rfl⟩))
  · have hi : i = 0 := by rcases hi with (hi | hi) | hi; exact absurd hi (by decide); exact hi; exact absurd hi.1 (by decide)
    subst hi; exact .inr (.inr (.inr ⟨t, rfl⟩))
theorem getR_oneR {v : Val} (hm : mayM v = true) (hi : inI v) (ht : v.t.length ≤ 1099511627776) (h0 : ¬ v.k = 0) (r : List UInt8) : getR v.k (oneR v ++ r) = (v, (oneR v).length, 0) := by
  rcases may_cases hm with rfl | (rfl | rfl) | ⟨i, rfl⟩ | ⟨t, rfl⟩
  · exact absurd rfl h0
  · rfl
  · rfl
  · have hz := zig_le hi.1 hi.2
    show intR (encB (zigN i) ++ r) = (_, (encB (zigN i)).length, 0)
    unfold intR
    rw [vget_enc _ _ hz]
    simp [zag_zig]
  · have hz : t.length ≤ 18446744073709551615 := by have : t.length ≤ 1099511627776 := ht; omega
    show textRR ((encB t.length ++ t) ++ r) = (_, (encB t.length ++ t).length, 0)
    unfold textRR
    rw [List.append_assoc, vget_enc _ _ hz]
    simp only [if_true]
    rw [if_neg (by simp only [List.length_append]; omega), List.drop_left, List.take_left, List.length_append]
theorem getR_cut {v : Val} (hm : mayM v = true) (hi : inI v) (ht : v.t.length ≤ 1099511627776) (h0 : ¬ v.k = 0) {c : Nat} (hc : c < (oneR v).length) : (getR v.k ((oneR v).take c)).2.2 = 20 := by
  rcases may_cases hm with rfl | (rfl | rfl) | ⟨i, rfl⟩ | ⟨t, rfl⟩
  · exact absurd rfl h0
  · have e : c = 0 := by have : c < 1 := hc; omega
    subst e; rfl
  · have e : c = 0 := by have : c < 1 := hc; omega
    subst e; rfl
  · have hz := zig_le hi.1 hi.2
    show (intR ((encB (zigN i)).take c)).2.2 = 20
    unfold intR
    rw [vget_cut hz hc]
    rfl
  · have hz : t.length ≤ 18446744073709551615 := by have : t.length ≤ 1099511627776 := ht; omega
    have hc : c < (encB t.length ++ t).length := hc
    show (textRR ((encB t.length ++ t).take c)).2.2 = 20
    unfold textRR
    rcases Nat.lt_or_ge c (encB t.length).length with h | h
    · rw [List.take_append_of_le_length (by omega), vget_cut hz h]; rfl
    · rw [List.length_append] at hc
      rw [List.take_append, List.take_of_length_le h, vget_enc _ _ hz]
      simp only [if_true]
      rw [if_pos (by simp only [List.length_append, List.length_take]; omega)]
theorem getR_back {t : UInt8} (ht : tyB t = true) {b : List UInt8} (h : (getR t b).2.2 = 0) : (getR t b).1.k = t ∧ mayM (getR t b).1 = true ∧ b.take (getR t b).2.1 = oneR (getR t b).1 ∧ inI (getR t b).1 := by
  rcases tyB_cases ht with e | e | e
  · subst e
    have e : getR 1 b = boolR b := rfl
    rw [e] at h ⊢
    unfold boolR at h ⊢
    by_cases h1 : b.length = 0
    · rw [if_pos h1] at h; cases h
    rw [if_neg h1] at h ⊢
    by_cases h2 : (1 : UInt8).toNat < (b.getD 0 0).toNat
    · rw [if_pos h2] at h; cases h
    rw [if_neg h2] at h ⊢
    have h2 : (b.getD 0 0).toNat ≤ 1 := Nat.not_lt.1 h2
    obtain ⟨x, r, rfl⟩ := List.exists_cons_of_length_pos (Nat.pos_of_ne_zero h1)
    have h2 : x.toNat ≤ 1 := h2
    refine ⟨rfl, ?_, ?_, ?_⟩
    · show mayM ⟨1, (x.toNat : Int), []⟩ = true
      rcases (by omega : x.toNat = 0 ∨ x.toNat = 1) with e | e <;> rw [e] <;> rfl
    · show [x] = oneR ⟨1, (x.toNat : Int), []⟩
      unfold oneR
      rw [if_pos rfl]
      exact congrArg (fun y => [y]) (UInt8.toNat_inj.1 (by rw [UInt8.toNat_ofNat']; show x.toNat = ((x.toNat : Int) % 256).toNat % 256; omega))
    · exact ⟨by show -9223372036854775808 ≤ ((x.toNat : Nat) : Int); omega, by show ((x.toNat : Nat) : Int) ≤ 9223372036854775807; omega⟩
  · subst e
    have e : getR 2 b = intR b := rfl
    rw [e] at h ⊢
    unfold intR at h ⊢
    have hlt := vget_lt b
    by_cases h1 : (vget b).2.2 = 0
    · rw [if_pos h1] at h ⊢
      have h2 := vget_back (b := b) (x := (vget b).1) (m := (vget b).2.1) (by rw [← h1])
      refine ⟨rfl, rfl, ?_, ?_⟩
      · rw [h2.2.2]
        show encB (vget b).1 = encB (zigN (zagI (vget b).1))
        rw [zig_zag]
      · exact zag_bnd hlt
    · rw [if_neg h1] at h; exact absurd h h1
  · subst e
    have e : getR 3 b = textRR b := rfl
    rw [e] at h ⊢
    unfold textRR at h ⊢
    by_cases h1 : (vget b).2.2 = 0
    · rw [if_pos h1] at h ⊢
      by_cases h2 : b.length - (vget b).2.1 < (vget b).1
      · rw [if_pos h2] at h; cases h
      rw [if_neg h2] at h ⊢
      have h3 := vget_back (b := b) (x := (vget b).1) (m := (vget b).2.1) (by rw [← h1])
      have hl : ((b.drop (vget b).2.1).take (vget b).1).length = (vget b).1 := by rw [List.length_take, List.length_drop]; omega
      refine ⟨rfl, rfl, ?_, ?_⟩
      · show b.take ((vget b).2.1 + (vget b).1) = encB ((b.drop (vget b).2.1).take (vget b).1).length ++ _
        rw [hl, List.take_add, h3.2.2]
      · exact ⟨by show _ ≤ (0 : Int); omega, by show (0 : Int) ≤ _; omega⟩
    · rw [if_neg h1] at h; exact absurd h h1

/-! ### The nulls' bits -/
theorem nb_bit (l : List Val) (k j : Nat) : ∀ r q, q < r → nb l k j r / 2 ^ q % 2 = if 8 * j + q < k ∧ (l.getD (8 * j + q) z0).k = 0 then 1 else 0
  | 0, q, h => by omega
  | r + 1, q, h => by
    rw [nb]
    rcases Nat.lt_or_ge q r with hq | hq
    · rw [← nb_bit l k j r q hq]
      split
      · obtain ⟨m, hm⟩ : ∃ m, r = q + (m + 1) := ⟨r - q - 1, by omega⟩
        rw [hm, Nat.pow_add, Nat.pow_succ, ← hm, show 2 ^ q * (2 ^ m * 2) = 2 ^ q * (2 * 2 ^ m) by rw [Nat.mul_comm (2 ^ m)], Nat.add_mul_div_left _ _ (Nat.pow_pos (by omega)), Nat.add_mul_mod_self_left]
      · rw [Nat.add_zero]
    · have e : q = r := by omega
      subst e
      have hlt : nb l k j q < 2 ^ q := Nat.lt_of_lt_of_le (nb_lt l k j q) (Nat.pow_le_pow_right (by omega) (by omega))
      split
      · rw [Nat.add_div_right _ (Nat.pow_pos (by omega)), Nat.div_eq_of_lt hlt]
      · rw [Nat.add_zero, Nat.div_eq_of_lt hlt]
theorem bytes_bits {x y : Nat} (hx : x < 256) (hy : y < 256) (h : ∀ q, q < 8 → x / 2 ^ q % 2 = y / 2 ^ q % 2) : x = y := by
  have h0 := h 0 (by omega)
  have h1 := h 1 (by omega)
  have h2 := h 2 (by omega)
  have h3 := h 3 (by omega)
  have h4 := h 4 (by omega)
  have h5 := h 5 (by omega)
  have h6 := h 6 (by omega)
  have h7 := h 7 (by omega)
  simp only [Nat.reducePow] at h0 h1 h2 h3 h4 h5 h6 h7
  omega
theorem null_nb {l : List Val} {k m i : Nat} (h : i / 8 < m) (r : List UInt8) : nullAt (nbits l k m ++ r) i = decide (i < k ∧ (l.getD i z0).k = 0) := by
  unfold nullAt
  have e : ((nbits l k m ++ r).getD (i / 8) 0) = UInt8.ofNat (nb l k (i / 8) 8) := by
    rw [List.getD_eq_getElem?_getD, List.getElem?_append_left (by rw [nbits_len]; exact h)]
    unfold nbits
    rw [List.getElem?_map, List.getElem?_range h]; rfl
  rw [e, UInt8.toNat_ofNat', Nat.mod_eq_of_lt (nb_256 l k (i / 8)), nb_bit l k (i / 8) 8 (i % 8) (by omega), show 8 * (i / 8) + i % 8 = i by omega]
  by_cases hP : i < k ∧ (l.getD i z0).k = 0
  · rw [if_pos hP, decide_eq_true hP]; rfl
  · rw [if_neg hP, decide_eq_false hP]; rfl

/-! ### A row -/
theorem all_null {l : List Val} {ts : List UInt8} (h : rowM ts l = true) : l.length = ts.length ∧ (∀ i, i < l.length → (l.getD i z0).k = 0 ∨ (l.getD i z0).k = ts.getD i 0) ∧ ∀ v ∈ l, mayM v = true := by
  unfold rowM kinds at h
  simp only [Bool.and_eq_true, decide_eq_true_eq] at h
  refine ⟨h.1.1, fun i hi => ?_, List.all_eq_true.1 h.2⟩
  have := rall_iff.1 h.1.2 i hi
  unfold kOK at this
  simpa only [Bool.or_eq_true, decide_eq_true_eq] using this
theorem mayz {v : Val} (h : mayM v = true) (h0 : v.k = 0) : v = z0 := by
  rcases may_cases h with e | (e | e) | ⟨i, e⟩ | ⟨t, e⟩
  · exact e
  · rw [e] at h0; exact absurd h0 (by decide)
  · rw [e] at h0; exact absurd h0 (by decide)
  · rw [e] at h0; exact absurd (show (2 : UInt8) = 0 from h0) (by decide)
  · rw [e] at h0; exact absurd (show (3 : UInt8) = 0 from h0) (by decide)
section
variable {ts : List UInt8} {l : List Val}
theorem nb_drop (l : List Val) (k m : Nat) (x : List UInt8) : (nbits l k m ++ x).drop m = x := by
  have := List.drop_left (l₁ := nbits l k m) (l₂ := x)
  rwa [nbits_len] at this
theorem pre_at {pre suf : List Val} {v : Val} (h : l = pre ++ v :: suf) : l.getD pre.length z0 = v := by
  subst h; simp [List.getD]
theorem ts_at {i : Nat} (h : i < ts.length) : ts[i] = ts.getD i 0 := by simp [List.getD, h]
/-- What is put is read, whatever follows. -/
theorem getL_put (h : rowM ts l = true) (hv : ∀ v ∈ l, inI v) (ht : ∀ v ∈ l, v.t.length ≤ 1099511627776) (r : List UInt8) : ∀ (suf pre : List Val), l = pre ++ suf →
    getL (nbits l l.length (nm l) ++ (l.flatMap oneR ++ r)) (ts.drop pre.length) pre.length (nm l + (pre.flatMap oneR).length) pre = (l, nm l + (l.flatMap oneR).length, 0)
  | [], pre, e => by
    obtain ⟨h1, h2, h3⟩ := all_null h
    rw [List.append_nil] at e
    subst e
    exact getL_end (by rw [h1])
  | v :: suf, pre, e => by
    obtain ⟨h1, h2, h3⟩ := all_null h
    have hmem : v ∈ l := by rw [e]; simp
    have hlen : l.length = pre.length + (suf.length + 1) := by rw [e]; simp
    have hk : pre.length < ts.length := by omega
    have hat := pre_at e
    have e2 : l = (pre ++ [v]) ++ suf := by rw [e]; simp
    have hn : nullAt (nbits l l.length (nm l) ++ (l.flatMap oneR ++ r)) pre.length = decide (v.k = 0) := by
      rw [null_nb (by unfold nm; omega), hat]
      have : pre.length < l.length := by omega
      simp [this]
    have ih := getL_put h hv ht r suf (pre ++ [v]) e2
    have hl1 : (pre ++ [v]).length = pre.length + 1 := by simp
    rw [hl1] at ih
    by_cases h0 : v.k = 0
    · have ez := mayz (h3 v hmem) h0
      rw [getL_null hk (by rw [hn, decide_eq_true h0])]
      rw [List.flatMap_append, List.length_append] at ih
      have e3 : (List.flatMap oneR [v]).length = 0 := by rw [List.flatMap_singleton, oneR_null h0]; rfl
      rw [e3, Nat.add_zero, ez] at ih
      exact ih
    · have hty : v.k = ts[pre.length] := by
        have := h2 pre.length (by omega)
        rw [hat] at this
        rw [ts_at hk]; exact this.resolve_left h0
      have hd : (nbits l l.length (nm l) ++ (l.flatMap oneR ++ r)).drop (nm l + (pre.flatMap oneR).length) = oneR v ++ (suf.flatMap oneR ++ r) := by
        rw [← List.drop_drop, nb_drop]
        conv => lhs; rw [e]
        rw [List.flatMap_append, List.flatMap_cons, List.append_assoc, List.drop_left, List.append_assoc]
      have hg := getR_oneR (h3 v hmem) (hv v hmem) (ht v hmem) h0 (suf.flatMap oneR ++ r)
      rw [hty] at hg
      rw [getL_val hk (by rw [hn, decide_eq_false h0]) (by rw [hd, hg]), hd, hg]
      rw [List.flatMap_append, List.length_append, List.flatMap_singleton, ← Nat.add_assoc] at ih
      exact ih
theorem pad_put (h : l.length = ts.length) (r : List UInt8) : padOK ts (nbits l l.length (nm l) ++ r) = true := by
  unfold padOK
  rw [rall_iff]
  intro j hj
  rw [show nm l = hd8 ts by unfold nm hd8; rw [h]]
  have hj : j < 8 * hd8 ts - ts.length := hj
  rw [null_nb (by omega), decide_eq_false (by omega)]; rfl
theorem nm_hd (h : l.length = ts.length) : nm l = hd8 ts := by unfold nm hd8; rw [h]
/-- What is put, followed by anything: read whole, or too long. -/
theorem get_put (hty : ts.all tyB = true) (h : rowM ts l = true) (hv : ∀ v ∈ l, inI v) (ht : ∀ v ∈ l, v.t.length ≤ 1099511627776) (r : List UInt8) :
    getM ts ((nbits l l.length (nm l) ++ l.flatMap oneR) ++ r) = if r = [] then (l, 0) else ([], 21) := by
  have h1 := (all_null h).1
  have hg := getL_put h hv ht r l [] rfl
  rw [List.append_assoc]
  have hg : getL (nbits l l.length (nm l) ++ (l.flatMap oneR ++ r)) ts 0 (hd8 ts) [] = (l, nm l + (l.flatMap oneR).length, 0) := by rw [← nm_hd h1]; exact hg
  rw [getM_go hty (by simp only [List.length_append, nbits_len, nm_hd h1]; omega) (pad_put h1 _) hg, if_pos rfl]
  simp only [List.length_append, nbits_len]
  by_cases hr : r = []
  · subst hr; rw [if_pos (by simp), if_pos rfl]
  · have := List.length_pos_iff.2 hr
    rw [if_neg (by omega), if_neg hr]
/-- Cut short in its values. -/
theorem getL_cut (h : rowM ts l = true) (hv : ∀ v ∈ l, inI v) (ht : ∀ v ∈ l, v.t.length ≤ 1099511627776) {c : Nat} (hc : c < (l.flatMap oneR).length) : ∀ (suf pre : List Val), l = pre ++ suf → (pre.flatMap oneR).length ≤ c →
    (getL (nbits l l.length (nm l) ++ (l.flatMap oneR).take c) (ts.drop pre.length) pre.length (nm l + (pre.flatMap oneR).length) pre).2.2 = 20
  | [], pre, e, hp => by
    rw [List.append_nil] at e
    subst e
    omega
  | v :: suf, pre, e, hp => by
    obtain ⟨h1, h2, h3⟩ := all_null h
    have hmem : v ∈ l := by rw [e]; simp
    have hlen : l.length = pre.length + (suf.length + 1) := by rw [e]; simp
    have hk : pre.length < ts.length := by omega
    have hat := pre_at e
    have e2 : l = (pre ++ [v]) ++ suf := by rw [e]; simp
    have hn : nullAt (nbits l l.length (nm l) ++ (l.flatMap oneR).take c) pre.length = decide (v.k = 0) := by
      rw [null_nb (by unfold nm; omega), hat]
      have : pre.length < l.length := by omega
      simp [this]
    have ih := getL_cut h hv ht hc suf (pre ++ [v]) e2
    have hl1 : (pre ++ [v]).length = pre.length + 1 := by simp
    rw [hl1] at ih
    rw [List.flatMap_append, List.length_append, List.flatMap_singleton] at ih
    by_cases h0 : v.k = 0
    · have ez := mayz (h3 v hmem) h0
      rw [getL_null hk (by rw [hn, decide_eq_true h0])]
      have e3 : (oneR v).length = 0 := by rw [oneR_null h0]; rfl
      rw [e3, Nat.add_zero, ez] at ih
      exact ih hp
    · have hty : v.k = ts[pre.length] := by
        have := h2 pre.length (by omega)
        rw [hat] at this
        rw [ts_at hk]; exact this.resolve_left h0
      have hd : (nbits l l.length (nm l) ++ (l.flatMap oneR).take c).drop (nm l + (pre.flatMap oneR).length) = (oneR v ++ suf.flatMap oneR).take (c - (pre.flatMap oneR).length) := by
        rw [← List.drop_drop, nb_drop, List.drop_take]
        conv => lhs; rw [e]
        rw [List.flatMap_append, List.flatMap_cons, List.drop_left]
      by_cases hf : (pre.flatMap oneR).length + (oneR v).length ≤ c
      · have hg := getR_oneR (h3 v hmem) (hv v hmem) (ht v hmem) h0 ((suf.flatMap oneR).take (c - (pre.flatMap oneR).length - (oneR v).length))
        rw [hty] at hg
        have hd2 : (oneR v ++ suf.flatMap oneR).take (c - (pre.flatMap oneR).length) = oneR v ++ (suf.flatMap oneR).take (c - (pre.flatMap oneR).length - (oneR v).length) := by
          rw [List.take_append, List.take_of_length_le (by omega)]
        rw [getL_val hk (by rw [hn, decide_eq_false h0]) (by rw [hd, hd2, hg]), hd, hd2, hg]
        rw [← Nat.add_assoc] at ih
        exact ih hf
      · have hg := getR_cut (h3 v hmem) (hv v hmem) (ht v hmem) h0 (c := c - (pre.flatMap oneR).length) (by omega)
        rw [hty] at hg
        have hd2 : (oneR v ++ suf.flatMap oneR).take (c - (pre.flatMap oneR).length) = (oneR v).take (c - (pre.flatMap oneR).length) := List.take_append_of_le_length (by omega)
        rw [getL_bad hk (by rw [hn, decide_eq_false h0]) (by rw [hd, hd2, hg]; decide), hd, hd2]
        exact hg
theorem get_cut (hty : ts.all tyB = true) (h : rowM ts l = true) (hv : ∀ v ∈ l, inI v) (ht : ∀ v ∈ l, v.t.length ≤ 1099511627776) {c : Nat} (hc : c < (nbits l l.length (nm l) ++ l.flatMap oneR).length) :
    (getM ts ((nbits l l.length (nm l) ++ l.flatMap oneR).take c)).2 = 20 := by
  have h1 := (all_null h).1
  rw [List.length_append, nbits_len] at hc
  by_cases h2 : c < nm l
  · rw [getM_short hty (by rw [List.length_take, List.length_append, nbits_len, ← nm_hd h1]; omega)]
  · have hd : (nbits l l.length (nm l) ++ l.flatMap oneR).take c = nbits l l.length (nm l) ++ (l.flatMap oneR).take (c - nm l) := by
      rw [List.take_append, List.take_of_length_le (by rw [nbits_len]; omega), nbits_len]
    rw [hd]
    have hg := getL_cut h hv ht (c := c - nm l) (by omega) l [] rfl (Nat.zero_le _)
    have hg : (getL (nbits l l.length (nm l) ++ (l.flatMap oneR).take (c - nm l)) ts 0 (hd8 ts) []).2.2 = 20 := by rw [← nm_hd h1]; exact hg
    rw [getM_go (l := (getL (nbits l l.length (nm l) ++ (l.flatMap oneR).take (c - nm l)) ts 0 (hd8 ts) []).1) (a := (getL (nbits l l.length (nm l) ++ (l.flatMap oneR).take (c - nm l)) ts 0 (hd8 ts) []).2.1) (c := 20) hty (by simp only [List.length_append, nbits_len, nm_hd h1]; omega) (pad_put h1 _) (by rw [← hg]), if_neg (by decide)]
end
/-! ### What is got is put -/
theorem getL_back {ts0 b : List UInt8} : ∀ (ts : List UInt8) (i a : Nat) (acc l : List Val) (e : Nat), ts.all tyB = true → a ≤ b.length → getL b ts i a acc = (l, e, 0) →
    ∃ suf, l = acc ++ suf ∧ suf.length = ts.length ∧ e = a + (suf.flatMap oneR).length ∧ e ≤ b.length ∧ (b.drop a).take (suf.flatMap oneR).length = suf.flatMap oneR ∧ (∀ v ∈ suf, mayM v = true ∧ inI v) ∧
      ∀ j, j < ts.length → (nullAt b (i + j) = decide ((suf.getD j z0).k = 0)) ∧ ((suf.getD j z0).k = 0 ∨ (suf.getD j z0).k = ts.getD j 0)
  | [], i, a, acc, l, e, _, ha, h => by
    rw [getL] at h
    cases h
    exact ⟨[], by simp, rfl, rfl, ha, rfl, by simp, fun j hj => absurd hj (Nat.not_lt_zero _)⟩
  | t :: ts, i, a, acc, l, e, ht, ha, h => by
    rw [List.all_cons, Bool.and_eq_true] at ht
    rw [getL] at h
    by_cases hn : nullAt b i = true
    · rw [if_pos hn] at h
      obtain ⟨suf, h1, h2, h3, h4, h5, h6, h7⟩ := getL_back (ts0 := ts0) ts (i + 1) a (acc ++ [z0]) l e ht.2 ha h
      refine ⟨z0 :: suf, by rw [h1]; simp, by simp [h2], h3, h4, h5, fun v hv => ?_, fun j hj => ?_⟩
      · rcases List.mem_cons.1 hv with rfl | hv
        · exact ⟨rfl, by decide, by decide⟩
        · exact h6 v hv
      · match j with
        | 0 => exact ⟨hn, .inl rfl⟩
        | j + 1 =>
          have := h7 j (by simpa using hj)
          rw [show i + 1 + j = i + (j + 1) by omega] at this
          exact this
    · rw [if_neg hn] at h
      by_cases h0 : (getR t (b.drop a)).2.2 = 0
      · rw [if_pos h0] at h
        have hl := getR_len t (b.drop a)
        rw [List.length_drop] at hl
        obtain ⟨suf, h1, h2, h3, h4, h5, h6, h7⟩ := getL_back (ts0 := ts0) ts (i + 1) _ _ l e ht.2 (by omega) h
        obtain ⟨g1, g2, g3, g4⟩ := getR_back ht.1 h0
        have hm : (getR t (b.drop a)).2.1 = (oneR (getR t (b.drop a)).1).length := by
          have := congrArg List.length g3
          rw [List.length_take, List.length_drop] at this; omega
        refine ⟨(getR t (b.drop a)).1 :: suf, by rw [h1]; simp, by simp [h2], by rw [h3, List.flatMap_cons, List.length_append, hm, Nat.add_assoc], h4, ?_, fun v hv => ?_, fun j hj => ?_⟩
        · rw [List.flatMap_cons, List.length_append, List.take_add, ← hm, g3, List.drop_drop, h5]
        · rcases List.mem_cons.1 hv with rfl | hv
          · exact ⟨g2, g4⟩
          · exact h6 v hv
        · match j with
          | 0 =>
            have hk0 : ¬ (getR t (b.drop a)).1.k = 0 := by
              rw [g1]
              rcases tyB_cases ht.1 with e | e | e <;> rw [e] <;> decide
            exact ⟨by show nullAt b i = decide ((getR t (b.drop a)).1.k = 0); rw [decide_eq_false hk0]; simpa using hn, .inr g1⟩
          | j + 1 =>
            have := h7 j (by simpa using hj)
            rw [show i + 1 + j = i + (j + 1) by omega] at this
            exact this
      · rw [if_neg h0] at h
        exact absurd (congrArg (fun p => p.2.2) h) h0
theorem byte_at {b : List UInt8} {j : Nat} {l : List Val} {n : Nat} (h : ∀ q, q < 8 → nullAt b (8 * j + q) = decide (8 * j + q < n ∧ (l.getD (8 * j + q) z0).k = 0)) : b.getD j 0 = UInt8.ofNat (nb l n j 8) := by
  apply UInt8.toNat_inj.1
  rw [UInt8.toNat_ofNat', Nat.mod_eq_of_lt (nb_256 l n j)]
  refine bytes_bits (UInt8.toNat_lt _) (nb_256 l n j) fun q hq => ?_
  have h1 := h q hq
  unfold nullAt at h1
  rw [show (8 * j + q) / 8 = j by omega, show (8 * j + q) % 8 = q by omega] at h1
  rw [nb_bit l n j 8 q hq]
  by_cases hP : 8 * j + q < n ∧ (l.getD (8 * j + q) z0).k = 0
  · rw [if_pos hP]; rw [decide_eq_true hP] at h1; exact of_decide_eq_true h1
  · rw [if_neg hP]; rw [decide_eq_false hP] at h1
    have h2 := of_decide_eq_false h1
    omega
theorem getM_back {ts b : List UInt8} (h : (getM ts b).2 = 0) : ts.all tyB = true ∧ rowM ts (getM ts b).1 = true ∧ b = nbits (getM ts b).1 (getM ts b).1.length (nm (getM ts b).1) ++ (getM ts b).1.flatMap oneR ∧ ∀ v ∈ (getM ts b).1, inI v := by
  have ht : ts.all tyB = true := by
    by_cases ht : ts.all tyB = true
    · exact ht
    · rw [getM_arg (by simpa using ht)] at h; cases h
  by_cases h1 : b.length < hd8 ts
  · rw [getM_short ht h1] at h; cases h
  by_cases h2 : padOK ts b = true
  · obtain ⟨l, a, c, hg⟩ : ∃ l a c, getL b ts 0 (hd8 ts) [] = (l, a, c) := ⟨_, _, _, rfl⟩
    have hM := getM_go ht h1 h2 hg
    rw [hM] at h ⊢
    by_cases hc : c = 0
    · rw [if_pos hc] at h ⊢
      subst hc
      by_cases ha : a = b.length
      · rw [if_pos ha] at h ⊢
        obtain ⟨suf, g1, g2, g3, g4, g5, g6, g7⟩ := getL_back (ts0 := ts) ts 0 (hd8 ts) [] l a ht (by omega) hg
        rw [List.nil_append] at g1
        subst g1
        show ts.all tyB = true ∧ rowM ts l = true ∧ b = nbits l l.length (nm l) ++ l.flatMap oneR ∧ ∀ v ∈ l, inI v
        have hrow : rowM ts l = true := by
          unfold rowM kinds
          rw [Bool.and_eq_true, Bool.and_eq_true, decide_eq_true_eq]
          refine ⟨⟨g2, rall_iff.2 fun k hk => ?_⟩, List.all_eq_true.2 fun v hv => (g6 v hv).1⟩
          unfold kOK
          rw [Bool.or_eq_true, decide_eq_true_eq, decide_eq_true_eq]
          exact (g7 k (by omega)).2
        refine ⟨ht, hrow, ?_, fun v hv => (g6 v hv).2⟩
        have hnm := nm_hd g2
        have hdrop : b.drop (hd8 ts) = l.flatMap oneR := by
          rw [← g5, List.take_of_length_le (by rw [List.length_drop]; omega)]
        have htake : b.take (hd8 ts) = nbits l l.length (nm l) := by
          apply List.ext_getElem?
          intro j
          rw [List.getElem?_take]
          unfold nbits
          by_cases hj : j < hd8 ts
          · rw [if_pos hj, List.getElem?_map, List.getElem?_range (by omega)]
            have hjb : j < b.length := by omega
            rw [List.getElem?_eq_getElem hjb, gd_at hjb]
            refine congrArg some (byte_at fun q hq => ?_)
            by_cases hlt : 8 * j + q < ts.length
            · have := (g7 (8 * j + q) hlt).1
              rw [Nat.zero_add] at this
              rw [this]
              simp [show 8 * j + q < l.length by omega]
            · have hp := rall_iff.1 h2 (8 * j + q - ts.length) (by omega)
              rw [show ts.length + (8 * j + q - ts.length) = 8 * j + q by omega] at hp
              rw [decide_eq_false (by omega)]
              simpa using hp
          · rw [if_neg hj, List.getElem?_eq_none (by simp; omega)]
        conv => lhs; rw [← List.take_append_drop (hd8 ts) b]
        rw [hdrop, htake]
      · rw [if_neg ha] at h; cases h
    · rw [if_neg hc] at h; exact absurd h hc
  · exfalso
    unfold getM at h
    rw [if_neg (by rw [ht]; decide), if_neg h1, if_pos (by simpa using h2)] at h
    cases h
end Go.Proofs.Ytbdibcpenihpdaa
