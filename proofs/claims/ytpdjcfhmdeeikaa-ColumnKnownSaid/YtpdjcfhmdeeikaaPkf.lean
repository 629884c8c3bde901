/-
  What the laws stand on, part 6 of 6: plain lemmas; no condition.
-/
import Derived.Test.YtpdjcfhmdeeikaaPke
set_option linter.unusedSimpArgs false
set_option linter.unusedVariables false
set_option linter.unusedSectionVars false
namespace Go.Proofs.Ytpdjcfhmdeeikaa
open Go.RowKit Go.DL

theorem bitAt_is {b : List UInt8} {j q : Nat} (hj : j < b.length) (hq : q < 8) : bitAt b (8 * j + q) = decide (b[j].toNat / 2 ^ q % 2 = 1) := by
  unfold bitAt
  rw [show (8 * j + q) / 8 = j by omega, show (8 * j + q) % 8 = q by omega, ← gd_at hj]
theorem lb_bits {b : List UInt8} {n i : Nat} (h : i < n) : lb (bitsOf b n) i = bitAt b i := by
  show ((List.range n).map (bitAt b)).getD i false = _
  rw [List.getD_eq_getElem?_getD, List.getElem?_map, List.getElem?_range h]; rfl
/-- Bits that are read are put as_ the bytes that they were read of. -/
theorem bits_back {b : List UInt8} {n : Nat} (h : ¬ b.length < (n + 7) / 8) (hp : padB b n = true) : bitsM (bitsOf b n) = b.take ((n + 7) / 8) := by
  unfold padB at hp
  rw [rall_iff] at hp
  unfold bitsM qbits
  rw [bitsOf_len]
  apply List.ext_getElem?
  intro j
  by_cases hj : j < (n + 7) / 8
  · have hjb : j < b.length := by omega
    rw [List.getElem?_map, List.getElem?_range hj, List.getElem?_take, if_pos hj, List.getElem?_eq_getElem hjb]
    show some (UInt8.ofNat (qb (lb (bitsOf b n)) n j 8)) = some b[j]
    congr 1
    apply UInt8.toNat_inj.1
    rw [UInt8.toNat_ofNat', Nat.mod_eq_of_lt (qb_256 _ _ _)]
    refine bytes_bits (qb_256 _ _ _) b[j].toNat_lt fun q hq => ?_
    rw [qb_bit _ _ _ 8 q hq]
    have hb := bitAt_is hjb hq
    by_cases hn : 8 * j + q < n
    · rw [lb_bits hn, hb]
      by_cases e : b[j].toNat / 2 ^ q % 2 = 1
      · rw [if_pos ⟨hn, by rw [decide_eq_true e]⟩, e]
      · rw [if_neg (fun hh => by rw [decide_eq_false e] at hh; exact absurd hh.2 (by decide))]; omega
    · rw [if_neg (fun hh => hn hh.1)]
      have := hp (8 * j + q - n) (by omega)
      rw [show n + (8 * j + q - n) = 8 * j + q by omega, hb] at this
      have : ¬ b[j].toNat / 2 ^ q % 2 = 1 := by simpa using this
      omega
  · rw [List.getElem?_eq_none (by simp; omega), List.getElem?_take, if_neg hj]
theorem getB_back {b : List UInt8} {n : Nat} (h : (getB b n).2.2 = 0) : (getB b n).2.1 = (n + 7) / 8 ∧ (n + 7) / 8 ≤ b.length ∧ bitsM (getB b n).1 = b.take ((n + 7) / 8) := by
  unfold getB at h ⊢
  by_cases h1 : b.length < (n + 7) / 8
  · rw [if_pos h1] at h; exact absurd h (by decide)
  rw [if_neg h1] at h ⊢
  by_cases h2 : padB b n = false
  · rw [if_pos h2] at h; exact absurd h (by decide)
  rw [if_neg h2]
  exact ⟨rfl, by omega, bits_back h1 (by simpa using h2)⟩
theorem vget_split {b : List UInt8} {a : Nat} {r : Nat × Nat × Nat} (hr : r = vget (b.drop a)) (h0 : r.2.2 = 0) : b.drop a = encB r.1 ++ b.drop (a + r.2.1) ∧ 1 ≤ r.2.1 ∧ r.2.1 ≤ b.length - a := by
  have h := vget_back (b := b.drop a) (x := r.1) (m := r.2.1) (by rw [← hr, ← h0])
  rw [List.length_drop] at h
  refine ⟨?_, h.1, h.2.1⟩
  rw [← h.2.2, ← List.drop_drop, List.take_append_drop]
theorem wdM_back (b : List UInt8) : ∀ (m a : Nat) (w W : List Txt) (a' : Nat), a ≤ b.length → wdM b m a w = (W, a', 0) → ∃ suf, W = w ++ suf ∧ suf.length = m ∧ b.drop a = wordsB suf ++ b.drop a' ∧ a' ≤ b.length ∧ szT suf ≤ 10 * m + (a' - a) ∧ a ≤ a'
  | 0, a, w, W, a', ha, h => by
    have e1 : w = W := congrArg Prod.fst h
    have e2 : a = a' := congrArg (fun x => x.2.1) h
    subst e1 e2
    exact ⟨[], by simp, rfl, rfl, ha, by simp [szT], Nat.le_refl _⟩
  | m + 1, a, w, W, a', ha, h => by
    rw [wdM] at h
    have hr0 : ∃ r, r = vget (b.drop a) := Exists.intro (vget (b.drop a)) (Eq.refl _)
    obtain ⟨r, hr⟩ := hr0
    rw [← hr] at h
    split at h
    · rename_i e; exact absurd (congrArg (fun x => x.2.2) h) e
    rename_i e
    have e : r.2.2 = 0 := Decidable.not_not.1 e
    split at h
    · exact absurd (congrArg (fun x => x.2.2) h) (by show ¬ (20 : Nat) = 0; decide)
    rename_i e2
    obtain ⟨s1, s2, s3⟩ := vget_split hr e
    obtain ⟨suf, g1, g2, g3, g4, g5, g6⟩ := wdM_back b m _ _ W a' (by omega) h
    have hl : ((b.drop (a + r.2.1)).take r.1).length = r.1 := by rw [List.length_take, List.length_drop]; omega
    refine ⟨(b.drop (a + r.2.1)).take r.1 :: suf, by rw [g1]; simp, by rw [List.length_cons, g2], ?_, g4, ?_, by omega⟩
    · unfold wordsB at g3 ⊢
      rw [List.flatMap_cons, List.append_assoc, ← g3, wB, hl, List.append_assoc, s1]
      congr 1
      have hdd : b.drop (a + r.2.1 + r.1) = (b.drop (a + r.2.1)).drop r.1 := List.drop_drop.symm
      rw [hdd, List.take_append_drop]
    · have e5 : szT ((b.drop (a + r.2.1)).take r.1 :: suf) = r.1 + 10 + szT suf := by simp only [szT, List.map_cons, List.sum_cons, hl]
      omega
theorem mkM_back (b : List UInt8) (W : List Txt) : ∀ (m a : Nat) (p p' : List Nat) (a' : Nat), a ≤ b.length → mkM b W m a p = (p', a', 0) → ∃ q, p' = p ++ q ∧ q.length = m ∧ b.drop a = q.flatMap encB ++ b.drop a' ∧ (∀ i ∈ q, i < W.length) ∧ a' ≤ b.length
  | 0, a, p, p', a', ha, h => by
    have e1 : p = p' := congrArg Prod.fst h
    have e2 : a = a' := congrArg (fun x => x.2.1) h
    subst e1 e2
    exact ⟨[], by simp, rfl, rfl, fun i hi => by simp at hi, ha⟩
  | m + 1, a, p, p', a', ha, h => by
    rw [mkM] at h
    have hr0 : ∃ r, r = vget (b.drop a) := Exists.intro (vget (b.drop a)) (Eq.refl _)
    obtain ⟨r, hr⟩ := hr0
    rw [← hr] at h
    split at h
    · rename_i e; exact absurd (congrArg (fun x => x.2.2) h) e
    rename_i e
    have e : r.2.2 = 0 := Decidable.not_not.1 e
    split at h
    · exact absurd (congrArg (fun x => x.2.2) h) (by show ¬ (21 : Nat) = 0; decide)
    rename_i e2
    obtain ⟨s1, s2, s3⟩ := vget_split hr e
    obtain ⟨q, g1, g2, g3, g4, g5⟩ := mkM_back b W m _ _ p' a' (by omega) h
    refine ⟨r.1 :: q, by rw [g1]; simp, by rw [List.length_cons, g2], ?_, fun i hi => ?_, g5⟩
    · rw [List.flatMap_cons, List.append_assoc, ← g3, s1]
    · rcases List.mem_cons.1 hi with rfl | hi
      · omega
      · exact g4 i hi
theorem wh_at {W : List Txt} (hn : W.Nodup) {i : Nat} (hi : i < W.length) : whM W (W.getD i []) = i := by
  have hm : W.getD i [] ∈ W := by rw [List.getD_eq_getElem?_getD, List.getElem?_eq_getElem hi]; exact List.getElem_mem hi
  have h := wh_lt hm
  exact nodup_at hn h.1 hi (by rw [List.getD_eq_getElem?_getD (i := whM W (W.getD i [])), h.2]; rfl)
theorem whB_at {W : List Txt} (hn : W.Nodup) : ∀ q : List Nat, (∀ i ∈ q, i < W.length) → whB W (atW W q) = q.flatMap encB
  | [], _ => rfl
  | i :: q, h => by
    have e : whB W (atW W (i :: q)) = encB (whM W (W.getD i [])) ++ whB W (atW W q) := rfl
    rw [e, wh_at hn (h i (by simp)), whB_at hn q fun j hj => h j (by simp [hj]), List.flatMap_cons]
theorem getTl_back {b : List UInt8} {n : Nat} (h : (getTl b n).2 = 0) : ∃ T, (getTl b n).1 = T.map vT ∧ txM T = b := by
  have hh0 : ∃ x, x = vget b := Exists.intro (vget b) (Eq.refl _)
  obtain ⟨x, hx⟩ := hh0
  by_cases h1 : x.2.2 = 0
  case neg => rw [getTl_bad hx h1] at h; exact absurd h h1
  by_cases h2 : n < x.1
  · rw [getTl_form hx h1 h2] at h; exact absurd h (by decide)
  obtain ⟨s1, s2, s3⟩ := vget_split (b := b) (a := 0) (by rw [List.drop_zero]; exact hx) h1
  rw [List.drop_zero, Nat.zero_add] at s1
  have hd0 : ∃ d, d = wdM b x.1 x.2.1 [] := Exists.intro (wdM b x.1 x.2.1 []) (Eq.refl _)
  obtain ⟨⟨W, a, e⟩, hd⟩ := hd0
  by_cases h3 : e = 0
  case neg =>
    exfalso
    unfold getTl at h
    rw [← hx, if_neg (fun y => y h1), if_neg h2, ← hd, if_pos h3] at h
    exact h3 h
  subst h3
  rw [getTl_go hx h1 h2 hd.symm] at h ⊢
  obtain ⟨suf, g1, g2, g3, g4, _, _⟩ := wdM_back b x.1 x.2.1 [] W a (by omega) hd.symm
  rw [List.nil_append] at g1
  subst g1
  unfold gmM at h ⊢
  by_cases h4 : (mkM (b.drop a) W n 0 []).2.2 = 0
  case neg => rw [if_pos h4] at h; exact absurd h h4
  rw [if_neg (fun y => y h4)] at h ⊢
  have hm0 : ∃ m, m = mkM (b.drop a) W n 0 [] := Exists.intro (mkM (b.drop a) W n 0 []) (Eq.refl _)
  obtain ⟨⟨p, a2, e2⟩, hm⟩ := hm0
  rw [← hm] at h h4 ⊢
  have h4 : e2 = 0 := h4
  subst h4
  by_cases h5 : a2 = (b.drop a).length ∧ wordsF (atW W p) = W
  case neg => rw [if_neg h5] at h; exact absurd h (by decide)
  rw [if_pos h5]
  obtain ⟨q, q1, q2, q3, q4, q5⟩ := mkM_back (b.drop a) W n 0 [] p a2 (Nat.zero_le _) hm.symm
  rw [List.nil_append] at q1
  subst q1
  rw [List.drop_zero, h5.1, List.drop_length, List.append_nil] at q3
  have hn : W.Nodup := by rw [← h5.2]; exact words_nodup _
  refine ⟨atW W p, rfl, ?_⟩
  unfold txM
  rw [h5.2, whB_at hn p q4, ← q3, g2, List.append_assoc, ← g3]; exact s1.symm
theorem payG_back {c : UInt8} {b : List UInt8} {n : Nat} (hc : tyB c = true) (hn : n ≤ 65536) (h : (payG c b n).2 = 0) : pay c (payG c b n).1 = b ∧ ∀ v ∈ (payG c b n).1, mayM v = true ∧ v.k = c := by
  rcases tyB_cases hc with e | e | e
  · subst e
    have h : (getBl b n).2 = 0 := h
    show bitsM (trM (getBl b n).1) = b ∧ ∀ v ∈ (getBl b n).1, mayM v = true ∧ v.k = 1
    unfold getBl at h ⊢
    by_cases h1 : (getB b n).2.2 = 0
    case neg => rw [if_neg h1] at h; exact absurd h h1
    rw [if_pos h1] at h ⊢
    by_cases h2 : (getB b n).2.1 < b.length
    · rw [if_pos h2] at h; exact absurd h (by decide)
    rw [if_neg h2]
    obtain ⟨g1, g2, g3⟩ := getB_back h1
    constructor
    · show bitsM (trM ((getB b n).1.map vB)) = b
      have e : trM ((getB b n).1.map vB) = (getB b n).1 := by
        unfold trM
        rw [List.map_map]
        conv => rhs; rw [← List.map_id (getB b n).1]
        apply List.map_congr_left
        intro s _
        cases s <;> rfl
      rw [e, g3, List.take_of_length_le (by omega)]
    · intro v hv
      obtain ⟨s, _, rfl⟩ := List.mem_map.1 hv
      cases s <;> exact ⟨rfl, rfl⟩
  · subst e
    have h : (getIl b n).2 = 0 := h
    show putI5 (nuM (getIl b n).1) = b ∧ ∀ v ∈ (getIl b n).1, mayM v = true ∧ v.k = 2
    unfold getIl at h ⊢
    by_cases h1 : (getI5 b n).2 = 0
    case neg => rw [if_neg h1] at h; exact absurd h h1
    rw [if_pos h1]
    constructor
    · show putI5 (nuM ((nS (getI5 b n).1).2.2.map vI)) = b
      have e : nuM ((nS (getI5 b n).1).2.2.map vI) = (nS (getI5 b n).1).2.2 := by
        unfold nuM
        rw [List.map_map]
        exact List.map_id' _
      rw [e]; exact (put_get h1).2
    · intro v hv
      obtain ⟨s, _, rfl⟩ := List.mem_map.1 hv
      exact ⟨rfl, rfl⟩
  · subst e
    have h : (getTl b n).2 = 0 := h
    show txM (tsM (getTl b n).1) = b ∧ ∀ v ∈ (getTl b n).1, mayM v = true ∧ v.k = 3
    obtain ⟨T, h1, h2⟩ := getTl_back h
    rw [h1]
    refine ⟨by rw [tsM_vT]; exact h2, fun v hv => ?_⟩
    obtain ⟨s, _, rfl⟩ := List.mem_map.1 hv
    exact ⟨rfl, rfl⟩
end Go.Proofs.Ytpdjcfhmdeeikaa
namespace Go.Proofs.Ytpdjcfhmdeeikaa
open Go.RowKit Go.DL

theorem get_in {b : List UInt8} {n : Int} (h : (getI5 b n).2 = 0) : ∀ x ∈ (nS (getI5 b n).1).2.2, in64 x := by
  unfold getI5 at h ⊢
  split at h
  · exact absurd h (by decide)
  rename_i e
  rw [if_neg e]
  obtain ⟨c, hc⟩ : ∃ c, gG b n.toNat 0 [] = (c, 0) := ⟨(gG b n.toNat 0 []).1, Prod.ext rfl h⟩
  rw [hc]
  obtain ⟨h1, h2, h3⟩ := gI_back b n.toNat _ 0 [] c (fun x hx => by simp at hx) rfl (Nat.zero_le _) (Nat.zero_le _) hc
  exact (ch_nS h1).2
theorem payG_in {c : UInt8} {b : List UInt8} {n : Nat} (hc : tyB c = true) (h : (payG c b n).2 = 0) : ∀ v ∈ (payG c b n).1, inI v := by
  rcases tyB_cases hc with e | e | e
  · subst e
    have h : (getBl b n).2 = 0 := h
    show ∀ v ∈ (getBl b n).1, inI v
    unfold getBl at h ⊢
    by_cases h1 : (getB b n).2.2 = 0
    case neg => rw [if_neg h1] at h; exact absurd h h1
    rw [if_pos h1] at h ⊢
    by_cases h2 : (getB b n).2.1 < b.length
    · rw [if_pos h2] at h; exact absurd h (by decide)
    rw [if_neg h2]
    intro v hv
    obtain ⟨s, _, rfl⟩ := List.mem_map.1 hv
    cases s <;> (show (_ : Int) ≤ _ ∧ _ ≤ _; decide)
  · subst e
    have h : (getIl b n).2 = 0 := h
    show ∀ v ∈ (getIl b n).1, inI v
    unfold getIl at h ⊢
    by_cases h1 : (getI5 b n).2 = 0
    case neg => rw [if_neg h1] at h; exact absurd h h1
    rw [if_pos h1]
    intro v hv
    obtain ⟨s, hs, rfl⟩ := List.mem_map.1 hv
    exact get_in h1 s hs
  · subst e
    obtain ⟨T, h1, h2⟩ := getTl_back h
    show ∀ v ∈ (getTl b n).1, inI v
    rw [h1]
    intro v hv
    obtain ⟨s, _, rfl⟩ := List.mem_map.1 hv
    show (_ : Int) ≤ 0 ∧ 0 ≤ _
    decide
theorem merge_mem {q : List Bool} {M : List Val} {n : Nat} {v : Val} (hq : q.length = n) (hM : M.length = cntF q) (h : v ∈ mergeK q M n) : v = z0 ∨ v ∈ M := by
  unfold mergeK at h
  obtain ⟨i, hi, rfl⟩ := List.mem_map.1 h
  have hi := List.mem_range.1 hi
  by_cases hqi : q.getD i false = true
  · rw [if_pos hqi]; exact .inl rfl
  · rw [if_neg hqi]
    have hg : q.getD i false = q[i]'(by omega) := by rw [List.getD_eq_getElem?_getD, List.getElem?_eq_getElem (by omega)]; rfl
    have hlt := cntF_lt (q := q) (k := i) (by omega) (by rw [← hg]; exact hqi)
    rw [List.getD_eq_getElem?_getD, List.getElem?_eq_getElem (by omega)]
    exact .inr (List.getElem_mem _)
theorem merge_mks {q : List Bool} {M : List Val} (hM : M.length = cntF q) (hk : ∀ v ∈ M, ¬ v.k = 0) : ∀ k, k ≤ q.length → mks (mergeK q M k) = M.take (cntF (q.take k)) ∧ nuB (mergeK q M k) = q.take k
  | 0, _ => by simp [mergeK, mks, nuB, cntF]
  | k + 1, h => by
    obtain ⟨h1, h2⟩ := merge_mks hM hk k (by omega)
    have hkl : k < q.length := by omega
    have hg : q.getD k false = q[k] := by rw [List.getD_eq_getElem?_getD, List.getElem?_eq_getElem hkl]; rfl
    rw [mergeK_succ, hg]
    have em : ∀ v, mks (mergeK q M k ++ [v]) = mks (mergeK q M k) ++ (if v.k = 0 then [] else [v]) := fun v => by
      unfold mks
      rw [List.filter_append]
      congr 1
      by_cases e : v.k = 0
      · rw [if_pos e, List.filter_cons_of_neg (by simp [e])]; rfl
      · rw [if_neg e, List.filter_cons_of_pos (by simp [e])]; rfl
    have en : ∀ v, nuB (mergeK q M k ++ [v]) = nuB (mergeK q M k) ++ [decide (v.k = 0)] := fun v => by unfold nuB; rw [List.map_append]; rfl
    rw [em, en, h1, h2, cntF_take hkl, List.take_succ_eq_append_getElem hkl]
    by_cases hq : q[k] = true
    · rw [if_pos hq, if_pos hq, if_pos (show z0.k = 0 from rfl), hq]
      exact ⟨by simp, rfl⟩
    · have hlt := cntF_lt hkl hq
      have hmem : M.getD (cntF (q.take k)) z0 = M[cntF (q.take k)]'(by omega) := by rw [List.getD_eq_getElem?_getD, List.getElem?_eq_getElem (by omega)]; rfl
      have hk0 : ¬ (M.getD (cntF (q.take k)) z0).k = 0 := by rw [hmem]; exact hk _ (List.getElem_mem _)
      rw [if_neg hq, if_neg hq, if_neg hk0, List.take_succ_eq_append_getElem (by omega), hmem]
      refine ⟨rfl, ?_⟩
      rw [← hmem, decide_eq_false hk0, show q[k] = false by simpa using hq]
theorem getC_back {c : UInt8} {b : List UInt8} {n : Nat} (hc : tyB c = true) (hn : n ≤ 65536) (h : (getC c b n).2 = 0) : colM c (getC c b n).1 = true ∧ (getC c b n).1.length = n ∧ colB c (getC c b n).1 = b ∧ ∀ v ∈ (getC c b n).1, inI v := by
  have hx0 : ∃ x, x = getB b n := Exists.intro (getB b n) (Eq.refl _)
  obtain ⟨x, hx⟩ := hx0
  by_cases h1 : x.2.2 = 0
  case neg => rw [getC_bad hx h1] at h; exact absurd h h1
  have hm0 : ∃ m, m = payG c (b.drop x.2.1) (cntF x.1) := Exists.intro (payG c (b.drop x.2.1) (cntF x.1)) (Eq.refl _)
  obtain ⟨m, hm⟩ := hm0
  by_cases h2 : m.2 = 0
  case neg => rw [getC_pay hx h1 hm h2] at h; exact absurd h h2
  rw [getC_ok hx h1 hm h2]
  have hql := (getB_len (b := b) (n := n) (by rw [← hx]; exact h1)).1
  obtain ⟨g1, g2, g3⟩ := getB_back (b := b) (n := n) (by rw [← hx]; exact h1)
  rw [← hx] at hql g1 g3
  have hcn := cntF_len x.1
  have h2' : (payG c (b.drop x.2.1) (cntF x.1)).2 = 0 := by rw [← hm]; exact h2
  obtain ⟨p1, p2⟩ := payG_back hc (by omega) h2'
  have p3 := payG_len h2'
  have p4 := payG_in hc h2'
  rw [← hm] at p1 p2 p3 p4
  have hkc : ∀ v ∈ m.1, ¬ v.k = 0 := fun v hv e => by
    have := (p2 v hv).2
    rw [e] at this
    subst this
    exact absurd hc (by decide)
  obtain ⟨m1, m2⟩ := merge_mks p3 hkc n (by omega)
  rw [List.take_of_length_le (by omega : x.1.length ≤ n)] at m1 m2
  rw [List.take_of_length_le (by omega)] at m1
  refine ⟨colM_iff.2 ⟨hc, by rw [mergeK_len]; exact hn, fun v hv => ?_, fun v hv => ?_⟩, mergeK_len _ _ _, ?_, fun v hv => ?_⟩
  · rcases merge_mem hql p3 hv with e | e
    · rw [e]; rfl
    · exact (p2 v e).1
  · rcases merge_mem hql p3 hv with e | e
    · rw [e]; exact .inl rfl
    · exact .inr (p2 v e).2
  · unfold colB
    rw [m1, m2, g3, p1, g1, List.take_append_drop]
  · rcases merge_mem hql p3 hv with e | e
    · rw [e]; show (_ : Int) ≤ 0 ∧ 0 ≤ _; decide
    · exact p4 v e
/-! ### Codes -/
theorem vget_code (b : List UInt8) : (vget b).2.2 = 0 ∨ (vget b).2.2 = 20 ∨ (vget b).2.2 = 21 := by
  rcases vget_wrong b with h | h
  · exact .inl h
  · exact .inr h.2.2
theorem gI_code (b : List UInt8) (n : Nat) : ∀ (f a : Nat) (c : List Int), (gI b n f a c).2 = 0 ∨ (gI b n f a c).2 = 20 ∨ (gI b n f a c).2 = 21
  | 0, _, _ => .inr (.inr rfl)
  | f + 1, a, c => by
    rw [gI]
    split
    · split
      · exact .inr (.inr rfl)
      · exact .inl rfl
    split
    · exact vget_code _
    split
    · exact .inr (.inr rfl)
    split
    · exact vget_code _
    split
    · exact .inr (.inr rfl)
    exact gI_code b n f _ _
theorem wdM_code (b : List UInt8) : ∀ (m a : Nat) (w : List Txt), (wdM b m a w).2.2 = 0 ∨ (wdM b m a w).2.2 = 20 ∨ (wdM b m a w).2.2 = 21
  | 0, _, _ => .inl rfl
  | m + 1, a, w => by
    rw [wdM]
    split
    · exact vget_code _
    split
    · exact .inr (.inl rfl)
    exact wdM_code b m _ _
theorem mkM_code (b : List UInt8) (W : List Txt) : ∀ (m a : Nat) (p : List Nat), (mkM b W m a p).2.2 = 0 ∨ (mkM b W m a p).2.2 = 20 ∨ (mkM b W m a p).2.2 = 21
  | 0, _, _ => .inl rfl
  | m + 1, a, p => by
    rw [mkM]
    split
    · exact vget_code _
    split
    · exact .inr (.inr rfl)
    exact mkM_code b W m _ _
theorem getB_code (b : List UInt8) (n : Nat) : (getB b n).2.2 = 0 ∨ (getB b n).2.2 = 20 ∨ (getB b n).2.2 = 21 := by
  unfold getB
  split
  · exact .inr (.inl rfl)
  split
  · exact .inr (.inr rfl)
  · exact .inl rfl
theorem payG_code (c : UInt8) (b : List UInt8) (n : Nat) (hn : n ≤ 65536) : (payG c b n).2 = 0 ∨ (payG c b n).2 = 20 ∨ (payG c b n).2 = 21 := by
  unfold payG
  split
  · unfold getBl
    split
    · split
      · exact .inr (.inr rfl)
      · exact .inl rfl
    · exact getB_code b n
  · split
    · unfold getIl
      split
      · exact .inl rfl
      · unfold getI5
        rw [if_neg (by omega)]
        exact gI_code _ _ _ _ _
    · unfold getTl
      split
      · exact vget_code b
      split
      · exact .inr (.inr rfl)
      split
      · exact wdM_code _ _ _ _
      unfold gmM
      split
      · exact mkM_code _ _ _ _ _
      split
      · exact .inl rfl
      · exact .inr (.inr rfl)
theorem getC_code (c : UInt8) (b : List UInt8) (n : Nat) (hn : n ≤ 65536) : (getC c b n).2 = 0 ∨ ((getC c b n).1 = [] ∧ ((getC c b n).2 = 20 ∨ (getC c b n).2 = 21)) := by
  have hx0 : ∃ x, x = getB b n := Exists.intro (getB b n) (Eq.refl _)
  obtain ⟨x, hx⟩ := hx0
  by_cases h1 : x.2.2 = 0
  case neg =>
    rw [getC_bad hx h1]
    have := getB_code b n
    rw [← hx] at this
    exact .inr ⟨rfl, this.resolve_left h1⟩
  have hm0 : ∃ m, m = payG c (b.drop x.2.1) (cntF x.1) := Exists.intro (payG c (b.drop x.2.1) (cntF x.1)) (Eq.refl _)
  obtain ⟨m, hm⟩ := hm0
  by_cases h2 : m.2 = 0
  · rw [getC_ok hx h1 hm h2]; exact .inl rfl
  · rw [getC_pay hx h1 hm h2]
    have hql := (getB_len (b := b) (n := n) (by rw [← hx]; exact h1)).1
    rw [← hx] at hql
    have hcn := cntF_len x.1
    have := payG_code c (b.drop x.2.1) (cntF x.1) (by omega)
    rw [← hm] at this
    exact .inr ⟨rfl, this.resolve_left h2⟩
/-! ### Sizes -/
theorem word_le {t : Txt} : ∀ {W : List Txt}, t ∈ W → t.length ≤ (wordsB W).length
  | x :: W, h => by
    have e5 : (wordsB (x :: W)).length = (encB x.length).length + x.length + (wordsB W).length := by unfold wordsB; rw [List.flatMap_cons, List.length_append, wB, List.length_append]
    rcases List.mem_cons.1 h with e | h
    · subst e; omega
    · have := word_le h; omega
theorem colB_text {c : UInt8} {l : List Val} (h : colM c l = true) : ∀ v ∈ l, v.t.length ≤ (colB c l).length := fun v hv => by
  obtain ⟨hc, hl, hmay, hk⟩ := colM_iff.1 h
  rcases may_cases (hmay v hv) with e | (e | e) | ⟨i, e⟩ | ⟨t, e⟩
  · rw [e]; exact Nat.zero_le _
  · rw [e]; exact Nat.zero_le _
  · rw [e]; exact Nat.zero_le _
  · rw [e]; exact Nat.zero_le _
  · have hk3 : v.k = 3 := by rw [e]
    have hc3 : c = 3 := by
      rcases hk v hv with h0 | h0
      · rw [hk3] at h0; exact absurd h0 (by decide)
      · rw [← h0]; exact hk3
    subst hc3
    have hmem : v.t ∈ tsM (mks l) := List.mem_map.2 ⟨v, mks_mem.2 ⟨hv, by rw [hk3]; decide⟩, rfl⟩
    have hw := word_le (words_all _ _ hmem)
    unfold colB
    show v.t.length ≤ (bitsM (nuB l) ++ txM (tsM (mks l))).length
    unfold txM
    simp only [List.length_append]; omega
theorem szM_le {l : List Val} {k : Nat} (h : ∀ v ∈ l, v.t.length ≤ k) : szM l ≤ l.length * (2 * k + 11) := by
  induction l with
  | nil => simp [szM]
  | cons v l ih =>
    have h1 := h v (by simp)
    have h2 := ih fun w hw => h w (by simp [hw])
    have e : szM (v :: l) = 2 * v.t.length + 11 + szM l := by simp [szM]
    rw [e, List.length_cons, Nat.add_mul]; omega
end Go.Proofs.Ytpdjcfhmdeeikaa
namespace Go.Proofs.Ytpdjcfhmdeeikaa
open Go.RowKit Go.DL

theorem okL.inI {l : List Val} (h : okL l) : ∀ v ∈ l, inI v := fun v hv => ⟨(h.1 v hv).1, (h.1 v hv).2.1⟩
theorem putX {c : UInt8} {l : List Val} : ((bif (colP c l).isSome then (0 : Int) else 1) = 0 ↔ colM c l = true) := by
  unfold colP
  cases colM c l <;> simp
theorem getCol_code (c : UInt8) (b : List UInt8) (n : Int) (h : tyB c = true ∧ 0 ≤ n ∧ n ≤ 65536) : (getCol c b n).2 = 0 ∨ ((getCol c b n).1 = [] ∧ ((getCol c b n).2 = 20 ∨ (getCol c b n).2 = 21)) := by
  unfold getCol; rw [if_pos h]; exact getC_code c b n.toNat (by omega)
theorem getCol_no (c : UInt8) (b : List UInt8) (n : Int) (h : ¬ (tyB c = true ∧ 0 ≤ n ∧ n ≤ 65536)) : getCol c b n = ([], 1) := by unfold getCol; rw [if_neg h]
theorem getCol_put {c : UInt8} {l : List Val} (hcol : colM c l = true) (hin : ∀ v ∈ l, inI v) (hs : szM l ≤ 109951162777) (r : List UInt8) : (getCol c (colB c l ++ r) l.length).2 = (if r = [] then 0 else 21) ∧ (r = [] → (getCol c (colB c l ++ r) l.length).1 = l) := by
  obtain ⟨hc, hl, _⟩ := colM_iff.1 hcol
  unfold getCol
  rw [if_pos ⟨hc, by omega, by omega⟩, Int.toNat_natCast]
  exact getC_put hcol hin hs r
theorem getCol_back {c : UInt8} {b : List UInt8} {n : Int} (h : (getCol c b n).2 = 0) : colM c (getCol c b n).1 = true ∧ ((getCol c b n).1.length : Int) = n ∧ colB c (getCol c b n).1 = b ∧ (∀ v ∈ (getCol c b n).1, inI v) := by
  by_cases hh : tyB c = true ∧ 0 ≤ n ∧ n ≤ 65536
  · unfold getCol at h ⊢
    rw [if_pos hh] at h ⊢
    obtain ⟨h1, h2, h3, h4⟩ := getC_back hh.1 (by omega) h
    exact ⟨h1, by omega, h3, h4⟩
  · rw [getCol_no c b n hh] at h; exact absurd h (by decide)
set_option maxRecDepth 20000 in
set_option maxHeartbeats 4000000 in
theorem cback_r (c : UInt8) (_ : True) (l : List Val) (hl : okL l) (n : Int) (_ : -9223372036854775808 ≤ n ∧ n ≤ 9223372036854775807) (b : List UInt8) (hb : b.length ≤ 9223372036854775807) : Fun Try.prog 6 [B8 c, rdV l, I64 n, rdB b] (· = Bo true) := by
  have hll := hl.2
  have hcr := @tyB_range c
  have n1 : (1 : UInt8).toNat = 1 := rfl
  have n3 : (3 : UInt8).toNat = 3 := rfl
  have hgl := getCol_len c b n
  have hgl2 := getCol_len c ((colP c l).getD []) l.length
  refine Fun.of Try.func6 rfl (Nat.le_of_ble_eq_true rfl) fun C => ?_
  refine WC.seq fun Fh1_ h1_ => ?_
  refine WC.region ?_
  refine RG.op _ _ rfl rfl (o_assign (.v _) rfl) ?_
  refine RG.nil (h1_ _ ?_)
  refine WC.seq fun Fh2_ h2_ => ?_
  refine WC.seq fun Fh3_ h3_ => ?_
  refine WC.region ?_
  refine RG.op _ _ rfl rfl (o_move (.rd _ _) rfl) ?_
  refine RG.op _ _ rfl rfl (o_call Ty.cal11 (long6_c _ (by first | omega | exact ubyte _ | (simp only [LS] <;> omega))) ⟨.inl rfl, trivial⟩ (by exact pua rfl)) ?_
  refine RG.op _ _ rfl rfl (o_move (.v _) rfl) ?_
  refine RG.opg1 _ _ _ _ _ rfl rfl rfl rfl rfl (fun hb => o_move (.rd _ _) rfl) ?_
  refine RG.opg1 _ _ _ _ _ rfl rfl rfl rfl rfl (fun hb => o_len_rd (gdT hb) Try.underlying24) ?_
  refine RG.opg1 _ _ _ _ _ rfl rfl rfl rfl rfl (fun hb => o_gtI (gdT hb) rfl) ?_
  refine RG.op _ _ rfl rfl (o_or _ _ rfl rfl rfl) ?_
  refine RG.op _ _ rfl rfl (o_move (.v _) rfl) ?_
  refine RG.opg1 _ _ _ _ _ rfl rfl rfl rfl rfl (fun hb => o_move (.v _) rfl) ?_
  refine RG.opg1 _ _ _ _ _ rfl rfl rfl rfl rfl (fun hb => o_gtI (gdT hb) rfl) ?_
  refine RG.opg1 _ _ _ _ _ rfl rfl rfl rfl rfl (fun hb => o_move (.v _) (gdT hb)) ?_
  refine RG.opg2 _ _ _ _ _ _ rfl rfl rfl rfl rfl (fun hb => o_move (.v _) rfl) ?_
  refine RG.opg2 _ _ _ _ _ _ rfl rfl rfl rfl rfl (fun hb => o_leI (gdT hb) rfl) ?_
  refine RG.opg1 _ _ _ _ _ rfl rfl rfl rfl rfl (fun hb => o_and _ _ (gdT hb) (gdS hb) rfl) ?_
  refine RG.op _ _ rfl rfl (o_or _ _ rfl rfl rfl) ?_
  refine RG.nil (h3_ _ ?_)
  refine WC.cond _ rfl (fun c1 => ?_) (fun c1 => ?_)
  ·
    have p1 := c1
    try simp only [CN] at p1
    refine WC.seq fun Fh4_ h4_ => ?_
    refine WC.region ?_
    refine RG.op _ _ rfl rfl (o_assign (.v _) rfl) ?_
    refine RG.nil (h4_ _ ?_)
    refine WC.ret ?_
    exact Ends.r1 rfl (.tmp _ (.v _) rfl) (.v _) (rfl)
  ·
    have p1 := c1
    try simp only [CN] at p1
    have hs := long6_sz (l := l) p1.1.1
    have hs1 := hs.1
    have hs2 := hs.2.1
    have hb2 : b.length ≤ 1000 := by omega
    have hn2 : n ≤ 2000 ∨ 65536 < n := by omega
    have hcl := colP_len (c := c) (l := l) (by omega)
    have hgp := cget_c c ((colP c l).getD []) l.length (by omega)
    have hgb := cget_c c b n (by omega)
    have hpl := cput_c c l (by omega)
    refine WC.skip (h2_ _ ?_)
    refine WC.seq fun Fh5_ h5_ => ?_
    refine WC.region ?_
    refine RG.op _ _ rfl rfl (o_move (.v _) rfl) ?_
    refine RG.op _ _ rfl rfl (o_move (.rd _ _) rfl) ?_
    refine RG.op _ _ rfl rfl (o_call Ty.cal12 hpl ⟨.inl rfl, .inl rfl, trivial⟩ (by exact pua rfl)) ?_
    refine RG.op _ _ rfl rfl (o_move (.tup _) rfl) ?_
    refine RG.op _ _ rfl rfl (o_extract rfl rfl) ?_
    refine RG.op _ _ rfl rfl (o_extract rfl rfl) ?_
    refine RG.op _ _ rfl rfl (o_assign (.rd _ _) rfl) ?_
    refine RG.op _ _ rfl rfl (o_assign (.v _) rfl) ?_
    refine RG.nil (h5_ _ ?_)
    refine WC.seq fun Fh6_ h6_ => ?_
    refine WC.seq fun Fh7_ h7_ => ?_
    refine WC.region ?_
    refine RG.op _ _ rfl rfl (o_move (.v _) rfl) ?_
    refine RG.op _ _ rfl rfl (o_eqI rfl rfl) ?_
    refine RG.op _ _ rfl rfl (o_move (.v _) rfl) ?_
    refine RG.op _ _ rfl rfl (o_move (.rd _ _) rfl) ?_
    refine RG.op _ _ rfl rfl (o_call Ty.cal21 (rcolumn_c _ _ (by first | omega | exact ubyte _ | (simp only [LS] <;> omega))) ⟨.inl rfl, .inl rfl, trivial⟩ (by exact pua rfl)) ?_
    refine RG.op _ _ rfl rfl (o_neb rfl rfl Try.underlying4) ?_
    refine RG.nil (h7_ _ ?_)
    refine WC.cond _ rfl (fun c4 => ?_) (fun c4 => ?_)
    ·
      have p4 := c4
      try simp only [CN] at p4
      refine WC.seq fun Fh8_ h8_ => ?_
      refine WC.region ?_
      refine RG.op _ _ rfl rfl (o_assign (.v _) rfl) ?_
      refine RG.nil (h8_ _ ?_)
      refine WC.ret ?_
      exact Ends.r1 rfl (.tmp _ (.v _) rfl) (.v _) (by exfalso; refine p4 ?_; rw [Bool.eq_iff_iff, decide_eq_true_eq]; exact putX)
    ·
      have p4 := c4
      try simp only [CN] at p4
      refine WC.skip (h6_ _ ?_)
      refine WC.seq fun Fh9_ h9_ => ?_
      refine WC.seq fun Fh10_ h10_ => ?_
      refine WC.region ?_
      refine RG.op _ _ rfl rfl (o_move (.v _) rfl) ?_
      refine RG.op _ _ rfl rfl (o_eqI rfl rfl) ?_
      refine RG.nil (h10_ _ ?_)
      refine WC.cond _ rfl (fun c6 => ?_) (fun c6 => ?_)
      ·
        have p6 := c6
        try simp only [CN] at p6
        refine WC.seq fun Fh11_ h11_ => ?_
        refine WC.region ?_
        refine RG.op _ _ rfl rfl (o_move (.v _) rfl) ?_
        refine RG.op _ _ rfl rfl (o_move (.rd _ _) rfl) ?_
        refine RG.op _ _ rfl rfl (o_move (.rd _ _) rfl) ?_
        refine RG.op _ _ rfl rfl (o_len_rd rfl Try.underlying22) ?_
        refine RG.op _ _ rfl rfl (o_call Ty.cal16 hgp ⟨.inl rfl, .inl rfl, .inl rfl, trivial⟩ (by exact pua rfl)) ?_
        refine RG.op _ _ rfl rfl (o_move (.tup _) rfl) ?_
        refine RG.op _ _ rfl rfl (o_extract rfl rfl) ?_
        refine RG.op _ _ rfl rfl (o_extract rfl rfl) ?_
        refine RG.op _ _ rfl rfl (o_assign (.rd _ _) rfl) ?_
        refine RG.op _ _ rfl rfl (o_assign (.v _) rfl) ?_
        refine RG.nil (h11_ _ ?_)
        refine WC.seq fun Fh12_ h12_ => ?_
        refine WC.region ?_
        refine RG.op _ _ rfl rfl (o_move (.v _) rfl) ?_
        refine RG.op _ _ rfl rfl (o_neI rfl rfl) ?_
        refine RG.op _ _ rfl rfl (o_move (.v _) rfl) ?_
        refine RG.opg1 _ _ _ _ _ rfl rfl rfl rfl rfl (fun hb => o_move (.rd _ _) rfl) ?_
        refine RG.opg1 _ _ _ _ _ rfl rfl rfl rfl rfl (fun hb => o_move (.rd _ _) rfl) ?_
        refine RG.opg1 _ _ _ _ _ rfl rfl rfl rfl rfl (fun hb => o_call Ty.cal14 (same_c _ _ (by first | omega | exact ubyte _ | (have hb' := hb; simp only [CN] at hb'; omega) | (simp only [LS] <;> omega) | (have hb' := hb; simp only [CN] at hb'; simp only [LS]; omega)) (by first | omega | exact ubyte _ | (have hb' := hb; simp only [CN] at hb'; omega) | (simp only [LS] <;> omega) | (have hb' := hb; simp only [CN] at hb'; simp only [LS]; omega))) ⟨.inl (gdT hb), .inl (gdT hb), trivial⟩ (by exact pua rfl)) ?_
        refine RG.opg1 _ _ _ _ _ rfl rfl rfl rfl rfl (fun hb => o_not (gdT hb)) ?_
        refine RG.op _ _ rfl rfl (o_or _ _ rfl rfl rfl) ?_
        refine RG.nil (h12_ _ ?_)
        refine WC.cond _ rfl (fun c8 => ?_) (fun c8 => ?_)
        ·
          have p8 := c8
          try simp only [CN] at p8
          refine WC.seq fun Fh13_ h13_ => ?_
          refine WC.region ?_
          refine RG.op _ _ rfl rfl (o_assign (.v _) rfl) ?_
          refine RG.nil (h13_ _ ?_)
          refine WC.ret ?_
          exact Ends.r1 rfl (.tmp _ (.v _) rfl) (.v _) (by exfalso; have hcol := putX.1 p6; have hg := getCol_put hcol hl.inI (by omega) []; rw [List.append_nil, if_pos rfl] at hg; have e : (colP c l).getD [] = colB c l := (by rw [colP_ok hcol]; rfl); rw [e] at p8; rcases p8 with h | h; exact h (by rw [hg.1]; rfl); exact h (hg.2 rfl))
        ·
          have p8 := c8
          try simp only [CN] at p8
          refine WC.skip (h9_ _ ?_)
          refine WC.seq fun Fh14_ h14_ => ?_
          refine WC.region ?_
          refine RG.op _ _ rfl rfl (o_move (.v _) rfl) ?_
          refine RG.op _ _ rfl rfl (o_move (.rd _ _) rfl) ?_
          refine RG.op _ _ rfl rfl (o_move (.v _) rfl) ?_
          refine RG.op _ _ rfl rfl (o_call Ty.cal16 hgb ⟨.inl rfl, .inl rfl, .inl rfl, trivial⟩ (by exact pua rfl)) ?_
          refine RG.op _ _ rfl rfl (o_move (.tup _) rfl) ?_
          refine RG.op _ _ rfl rfl (o_extract rfl rfl) ?_
          refine RG.op _ _ rfl rfl (o_extract rfl rfl) ?_
          refine RG.op _ _ rfl rfl (o_assign (.rd _ _) rfl) ?_
          refine RG.op _ _ rfl rfl (o_assign (.v _) rfl) ?_
          refine RG.nil (h14_ _ ?_)
          refine WC.seq fun Fh15_ h15_ => ?_
          refine WC.seq fun Fh16_ h16_ => ?_
          refine WC.region ?_
          refine RG.op _ _ rfl rfl (o_move (.v _) rfl) ?_
          refine RG.op _ _ rfl rfl (o_ltB (b := 1) rfl rfl) ?_
          refine RG.op _ _ rfl rfl (o_move (.v _) rfl) ?_
          refine RG.opg1 _ _ _ _ _ rfl rfl rfl rfl rfl (fun hb => o_move (.v _) rfl) ?_
          refine RG.opg1 _ _ _ _ _ rfl rfl rfl rfl rfl (fun hb => o_gtB (b := 3) (gdT hb) rfl) ?_
          refine RG.op _ _ rfl rfl (o_or _ _ rfl rfl rfl) ?_
          refine RG.op _ _ rfl rfl (o_move (.v _) rfl) ?_
          refine RG.opg1 _ _ _ _ _ rfl rfl rfl rfl rfl (fun hb => o_move (.v _) rfl) ?_
          refine RG.opg1 _ _ _ _ _ rfl rfl rfl rfl rfl (fun hb => o_ltI (gdT hb) rfl) ?_
          refine RG.op _ _ rfl rfl (o_or _ _ rfl rfl rfl) ?_
          refine RG.op _ _ rfl rfl (o_move (.v _) rfl) ?_
          refine RG.opg1 _ _ _ _ _ rfl rfl rfl rfl rfl (fun hb => o_move (.v _) rfl) ?_
          refine RG.opg1 _ _ _ _ _ rfl rfl rfl rfl rfl (fun hb => o_gtI (gdT hb) rfl) ?_
          refine RG.op _ _ rfl rfl (o_or _ _ rfl rfl rfl) ?_
          refine RG.nil (h16_ _ ?_)
          refine WC.cond _ rfl (fun c11 => ?_) (fun c11 => ?_)
          ·
            have p11 := c11
            try simp only [CN] at p11
            refine WC.seq fun Fh17_ h17_ => ?_
            refine WC.region ?_
            refine RG.op _ _ rfl rfl (o_move (.v _) rfl) ?_
            refine RG.op _ _ rfl rfl (o_eqI rfl rfl) ?_
            refine RG.op _ _ rfl rfl (o_move (.v _) rfl) ?_
            refine RG.opg1 _ _ _ _ _ rfl rfl rfl rfl rfl (fun hb => o_move (.rd _ _) rfl) ?_
            refine RG.opg1 _ _ _ _ _ rfl rfl rfl rfl rfl (fun hb => o_len_rd (gdT hb) Try.underlying22) ?_
            refine RG.opg1 _ _ _ _ _ rfl rfl rfl rfl rfl (fun hb => o_eqI (gdT hb) rfl) ?_
            refine RG.op _ _ rfl rfl (o_and _ _ rfl rfl rfl) ?_
            refine RG.op _ _ rfl rfl (o_move (.v _) rfl) ?_
            refine RG.opg1 _ _ _ _ _ rfl rfl rfl rfl rfl (fun hb => o_call Ty.cal15 (puts6_c) trivial (by exact pua rfl)) ?_
            refine RG.op _ _ rfl rfl (o_and _ _ rfl rfl rfl) ?_
            refine RG.op _ _ rfl rfl (o_assign (.v _) rfl) ?_
            refine RG.nil (h17_ _ ?_)
            refine WC.ret ?_
            exact Ends.r1 rfl (.tmp _ (.v _) rfl) (.v _) (congrArg Bo (by rw [getCol_no c b n (by rintro ⟨h1, h2, h3⟩; have := hcr.1 h1; omega)]; rfl))
          ·
            have p11 := c11
            try simp only [CN] at p11
            have hva : tyB c = true ∧ 0 ≤ n ∧ n ≤ 65536 := ⟨hcr.2 (by omega), by omega, by omega⟩
            refine WC.skip (h15_ _ ?_)
            refine WC.seq fun Fh18_ h18_ => ?_
            refine WC.seq fun Fh19_ h19_ => ?_
            refine WC.region ?_
            refine RG.op _ _ rfl rfl (o_move (.v _) rfl) ?_
            refine RG.op _ _ rfl rfl (o_neI rfl rfl) ?_
            refine RG.nil (h19_ _ ?_)
            refine WC.cond _ rfl (fun c13 => ?_) (fun c13 => ?_)
            ·
              have p13 := c13
              try simp only [CN] at p13
              refine WC.seq fun Fh20_ h20_ => ?_
              refine WC.region ?_
              refine RG.op _ _ rfl rfl (o_move (.rd _ _) rfl) ?_
              refine RG.op _ _ rfl rfl (o_len_rd rfl Try.underlying22) ?_
              refine RG.op _ _ rfl rfl (o_eqI rfl rfl) ?_
              refine RG.op _ _ rfl rfl (o_move (.v _) rfl) ?_
              refine RG.opg1 _ _ _ _ _ rfl rfl rfl rfl rfl (fun hb => o_move (.v _) rfl) ?_
              refine RG.opg1 _ _ _ _ _ rfl rfl rfl rfl rfl (fun hb => o_eqI (gdT hb) rfl) ?_
              refine RG.opg1 _ _ _ _ _ rfl rfl rfl rfl rfl (fun hb => o_move (.v _) (gdT hb)) ?_
              refine RG.opg2 _ _ _ _ _ _ rfl rfl rfl rfl rfl (fun hb => o_move (.v _) rfl) ?_
              refine RG.opg2 _ _ _ _ _ _ rfl rfl rfl rfl rfl (fun hb => o_eqI (gdT hb) rfl) ?_
              refine RG.opg1 _ _ _ _ _ rfl rfl rfl rfl rfl (fun hb => o_or _ _ (gdT hb) rfl (gdS hb)) ?_
              refine RG.op _ _ rfl rfl (o_and _ _ rfl rfl rfl) ?_
              refine RG.op _ _ rfl rfl (o_move (.v _) rfl) ?_
              refine RG.opg1 _ _ _ _ _ rfl rfl rfl rfl rfl (fun hb => o_call Ty.cal15 (puts6_c) trivial (by exact pua rfl)) ?_
              refine RG.op _ _ rfl rfl (o_and _ _ rfl rfl rfl) ?_
              refine RG.op _ _ rfl rfl (o_assign (.v _) rfl) ?_
              refine RG.nil (h20_ _ ?_)
              refine WC.ret ?_
              exact Ends.r1 rfl (.tmp _ (.v _) rfl) (.v _) (congrArg Bo (by rcases getCol_code c b n hva with h | ⟨h1, h2 | h2⟩; omega; (rw [h1, h2]; rfl); (rw [h1, h2]; rfl)))
            ·
              have p13 := c13
              try simp only [CN] at p13
              have hok : (getCol c b n).2 = 0 := by omega
              have hbk := getCol_back hok
              have htx : ∀ v ∈ (getCol c b n).1, v.t.length ≤ 1000 := fun v hv => by have := colB_text hbk.1 v hv; rw [hbk.2.2.1] at this; omega
              have hsm := szM_le htx
              have hbl := hbk.2.1
              have hml : (getCol c b n).1.length ≤ 2000 := by omega
              have hsm2 : (getCol c b n).1.length * (2 * 1000 + 11) ≤ 2000 * 2011 := Nat.mul_le_mul hml (by omega)
              have hput2 := cput_c c (getCol c b n).1 (by omega)
              rw [colP_ok hbk.1, hbk.2.2.1] at hput2
              refine WC.skip (h18_ _ ?_)
              refine WC.seq fun Fh21_ h21_ => ?_
              refine WC.region ?_
              refine RG.op _ _ rfl rfl (o_move (.v _) rfl) ?_
              refine RG.op _ _ rfl rfl (o_move (.rd _ _) rfl) ?_
              refine RG.op _ _ rfl rfl (o_call Ty.cal12 hput2 ⟨.inl rfl, .inl rfl, trivial⟩ (by exact pua rfl)) ?_
              refine RG.op _ _ rfl rfl (o_move (.tup _) rfl) ?_
              refine RG.op _ _ rfl rfl (o_extract rfl rfl) ?_
              refine RG.op _ _ rfl rfl (o_extract rfl rfl) ?_
              refine RG.op _ _ rfl rfl (o_assign (.rd _ _) rfl) ?_
              refine RG.op _ _ rfl rfl (o_assign (.v _) rfl) ?_
              refine RG.nil (h21_ _ ?_)
              refine WC.seq fun Fh22_ h22_ => ?_
              refine WC.region ?_
              refine RG.op _ _ rfl rfl (o_move (.v _) rfl) ?_
              refine RG.op _ _ rfl rfl (o_eqI rfl rfl) ?_
              refine RG.op _ _ rfl rfl (o_move (.v _) rfl) ?_
              refine RG.opg1 _ _ _ _ _ rfl rfl rfl rfl rfl (fun hb => o_move (.rd _ _) rfl) ?_
              refine RG.opg1 _ _ _ _ _ rfl rfl rfl rfl rfl (fun hb => o_len_rd (gdT hb) Try.underlying22) ?_
              refine RG.opg1 _ _ _ _ _ rfl rfl rfl rfl rfl (fun hb => o_move (.v _) rfl) ?_
              refine RG.opg1 _ _ _ _ _ rfl rfl rfl rfl rfl (fun hb => o_eqI (gdT hb) (gdT hb)) ?_
              refine RG.op _ _ rfl rfl (o_and _ _ rfl rfl rfl) ?_
              refine RG.op _ _ rfl rfl (o_move (.v _) rfl) ?_
              refine RG.opg1 _ _ _ _ _ rfl rfl rfl rfl rfl (fun hb => o_move (.rd _ _) rfl) ?_
              refine RG.opg1 _ _ _ _ _ rfl rfl rfl rfl rfl (fun hb => o_str_rd (gdT hb) Try.underlying24 Try.underlying5 Try.underlying9) ?_
              refine RG.opg1 _ _ _ _ _ rfl rfl rfl rfl rfl (fun hb => o_move (.rd _ _) rfl) ?_
              refine RG.opg1 _ _ _ _ _ rfl rfl rfl rfl rfl (fun hb => o_str_rd (gdT hb) Try.underlying24 Try.underlying5 Try.underlying9) ?_
              refine RG.opg1 _ _ _ _ _ rfl rfl rfl rfl rfl (fun hb => o_eqS' (gdT hb) (gdT hb)) ?_
              refine RG.op _ _ rfl rfl (o_and _ _ rfl rfl rfl) ?_
              refine RG.op _ _ rfl rfl (o_move (.v _) rfl) ?_
              refine RG.opg1 _ _ _ _ _ rfl rfl rfl rfl rfl (fun hb => o_call Ty.cal15 (puts6_c) trivial (by exact pua rfl)) ?_
              refine RG.op _ _ rfl rfl (o_and _ _ rfl rfl rfl) ?_
              refine RG.op _ _ rfl rfl (o_assign (.v _) rfl) ?_
              refine RG.nil (h22_ _ ?_)
              refine WC.ret ?_
              exact Ends.r1 rfl (.tmp _ (.v _) rfl) (.v _) (congrArg Bo (by simp [hbl]))
      ·
        have p6 := c6
        try simp only [CN] at p6
        refine WC.skip (h9_ _ ?_)
        refine WC.seq fun Fh23_ h23_ => ?_
        refine WC.region ?_
        refine RG.op _ _ rfl rfl (o_move (.v _) rfl) ?_
        refine RG.op _ _ rfl rfl (o_move (.rd _ _) rfl) ?_
        refine RG.op _ _ rfl rfl (o_move (.v _) rfl) ?_
        refine RG.op _ _ rfl rfl (o_call Ty.cal16 hgb ⟨.inl rfl, .inl rfl, .inl rfl, trivial⟩ (by exact pua rfl)) ?_
        refine RG.op _ _ rfl rfl (o_move (.tup _) rfl) ?_
        refine RG.op _ _ rfl rfl (o_extract rfl rfl) ?_
        refine RG.op _ _ rfl rfl (o_extract rfl rfl) ?_
        refine RG.op _ _ rfl rfl (o_assign (.rd _ _) rfl) ?_
        refine RG.op _ _ rfl rfl (o_assign (.v _) rfl) ?_
        refine RG.nil (h23_ _ ?_)
        refine WC.seq fun Fh24_ h24_ => ?_
        refine WC.seq fun Fh25_ h25_ => ?_
        refine WC.region ?_
        refine RG.op _ _ rfl rfl (o_move (.v _) rfl) ?_
        refine RG.op _ _ rfl rfl (o_ltB (b := 1) rfl rfl) ?_
        refine RG.op _ _ rfl rfl (o_move (.v _) rfl) ?_
        refine RG.opg1 _ _ _ _ _ rfl rfl rfl rfl rfl (fun hb => o_move (.v _) rfl) ?_
        refine RG.opg1 _ _ _ _ _ rfl rfl rfl rfl rfl (fun hb => o_gtB (b := 3) (gdT hb) rfl) ?_
        refine RG.op _ _ rfl rfl (o_or _ _ rfl rfl rfl) ?_
        refine RG.op _ _ rfl rfl (o_move (.v _) rfl) ?_
        refine RG.opg1 _ _ _ _ _ rfl rfl rfl rfl rfl (fun hb => o_move (.v _) rfl) ?_
        refine RG.opg1 _ _ _ _ _ rfl rfl rfl rfl rfl (fun hb => o_ltI (gdT hb) rfl) ?_
        refine RG.op _ _ rfl rfl (o_or _ _ rfl rfl rfl) ?_
        refine RG.op _ _ rfl rfl (o_move (.v _) rfl) ?_
        refine RG.opg1 _ _ _ _ _ rfl rfl rfl rfl rfl (fun hb => o_move (.v _) rfl) ?_
        refine RG.opg1 _ _ _ _ _ rfl rfl rfl rfl rfl (fun hb => o_gtI (gdT hb) rfl) ?_
        refine RG.op _ _ rfl rfl (o_or _ _ rfl rfl rfl) ?_
        refine RG.nil (h25_ _ ?_)
        refine WC.cond _ rfl (fun c11 => ?_) (fun c11 => ?_)
        ·
          have p11 := c11
          try simp only [CN] at p11
          refine WC.seq fun Fh26_ h26_ => ?_
          refine WC.region ?_
          refine RG.op _ _ rfl rfl (o_move (.v _) rfl) ?_
          refine RG.op _ _ rfl rfl (o_eqI rfl rfl) ?_
          refine RG.op _ _ rfl rfl (o_move (.v _) rfl) ?_
          refine RG.opg1 _ _ _ _ _ rfl rfl rfl rfl rfl (fun hb => o_move (.rd _ _) rfl) ?_
          refine RG.opg1 _ _ _ _ _ rfl rfl rfl rfl rfl (fun hb => o_len_rd (gdT hb) Try.underlying22) ?_
          refine RG.opg1 _ _ _ _ _ rfl rfl rfl rfl rfl (fun hb => o_eqI (gdT hb) rfl) ?_
          refine RG.op _ _ rfl rfl (o_and _ _ rfl rfl rfl) ?_
          refine RG.op _ _ rfl rfl (o_move (.v _) rfl) ?_
          refine RG.opg1 _ _ _ _ _ rfl rfl rfl rfl rfl (fun hb => o_call Ty.cal15 (puts6_c) trivial (by exact pua rfl)) ?_
          refine RG.op _ _ rfl rfl (o_and _ _ rfl rfl rfl) ?_
          refine RG.op _ _ rfl rfl (o_assign (.v _) rfl) ?_
          refine RG.nil (h26_ _ ?_)
          refine WC.ret ?_
          exact Ends.r1 rfl (.tmp _ (.v _) rfl) (.v _) (congrArg Bo (by rw [getCol_no c b n (by rintro ⟨h1, h2, h3⟩; have := hcr.1 h1; omega)]; rfl))
        ·
          have p11 := c11
          try simp only [CN] at p11
          have hva : tyB c = true ∧ 0 ≤ n ∧ n ≤ 65536 := ⟨hcr.2 (by omega), by omega, by omega⟩
          refine WC.skip (h24_ _ ?_)
          refine WC.seq fun Fh27_ h27_ => ?_
          refine WC.seq fun Fh28_ h28_ => ?_
          refine WC.region ?_
          refine RG.op _ _ rfl rfl (o_move (.v _) rfl) ?_
          refine RG.op _ _ rfl rfl (o_neI rfl rfl) ?_
          refine RG.nil (h28_ _ ?_)
          refine WC.cond _ rfl (fun c13 => ?_) (fun c13 => ?_)
          ·
            have p13 := c13
            try simp only [CN] at p13
            refine WC.seq fun Fh29_ h29_ => ?_
            refine WC.region ?_
            refine RG.op _ _ rfl rfl (o_move (.rd _ _) rfl) ?_
            refine RG.op _ _ rfl rfl (o_len_rd rfl Try.underlying22) ?_
            refine RG.op _ _ rfl rfl (o_eqI rfl rfl) ?_
            refine RG.op _ _ rfl rfl (o_move (.v _) rfl) ?_
            refine RG.opg1 _ _ _ _ _ rfl rfl rfl rfl rfl (fun hb => o_move (.v _) rfl) ?_
            refine RG.opg1 _ _ _ _ _ rfl rfl rfl rfl rfl (fun hb => o_eqI (gdT hb) rfl) ?_
            refine RG.opg1 _ _ _ _ _ rfl rfl rfl rfl rfl (fun hb => o_move (.v _) (gdT hb)) ?_
            refine RG.opg2 _ _ _ _ _ _ rfl rfl rfl rfl rfl (fun hb => o_move (.v _) rfl) ?_
            refine RG.opg2 _ _ _ _ _ _ rfl rfl rfl rfl rfl (fun hb => o_eqI (gdT hb) rfl) ?_
            refine RG.opg1 _ _ _ _ _ rfl rfl rfl rfl rfl (fun hb => o_or _ _ (gdT hb) rfl (gdS hb)) ?_
            refine RG.op _ _ rfl rfl (o_and _ _ rfl rfl rfl) ?_
            refine RG.op _ _ rfl rfl (o_move (.v _) rfl) ?_
            refine RG.opg1 _ _ _ _ _ rfl rfl rfl rfl rfl (fun hb => o_call Ty.cal15 (puts6_c) trivial (by exact pua rfl)) ?_
            refine RG.op _ _ rfl rfl (o_and _ _ rfl rfl rfl) ?_
            refine RG.op _ _ rfl rfl (o_assign (.v _) rfl) ?_
            refine RG.nil (h29_ _ ?_)
            refine WC.ret ?_
            exact Ends.r1 rfl (.tmp _ (.v _) rfl) (.v _) (congrArg Bo (by rcases getCol_code c b n hva with h | ⟨h1, h2 | h2⟩; omega; (rw [h1, h2]; rfl); (rw [h1, h2]; rfl)))
          ·
            have p13 := c13
            try simp only [CN] at p13
            have hok : (getCol c b n).2 = 0 := by omega
            have hbk := getCol_back hok
            have htx : ∀ v ∈ (getCol c b n).1, v.t.length ≤ 1000 := fun v hv => by have := colB_text hbk.1 v hv; rw [hbk.2.2.1] at this; omega
            have hsm := szM_le htx
            have hbl := hbk.2.1
            have hml : (getCol c b n).1.length ≤ 2000 := by omega
            have hsm2 : (getCol c b n).1.length * (2 * 1000 + 11) ≤ 2000 * 2011 := Nat.mul_le_mul hml (by omega)
            have hput2 := cput_c c (getCol c b n).1 (by omega)
            rw [colP_ok hbk.1, hbk.2.2.1] at hput2
            refine WC.skip (h27_ _ ?_)
            refine WC.seq fun Fh30_ h30_ => ?_
            refine WC.region ?_
            refine RG.op _ _ rfl rfl (o_move (.v _) rfl) ?_
            refine RG.op _ _ rfl rfl (o_move (.rd _ _) rfl) ?_
            refine RG.op _ _ rfl rfl (o_call Ty.cal12 hput2 ⟨.inl rfl, .inl rfl, trivial⟩ (by exact pua rfl)) ?_
            refine RG.op _ _ rfl rfl (o_move (.tup _) rfl) ?_
            refine RG.op _ _ rfl rfl (o_extract rfl rfl) ?_
            refine RG.op _ _ rfl rfl (o_extract rfl rfl) ?_
            refine RG.op _ _ rfl rfl (o_assign (.rd _ _) rfl) ?_
            refine RG.op _ _ rfl rfl (o_assign (.v _) rfl) ?_
            refine RG.nil (h30_ _ ?_)
            refine WC.seq fun Fh31_ h31_ => ?_
            refine WC.region ?_
            refine RG.op _ _ rfl rfl (o_move (.v _) rfl) ?_
            refine RG.op _ _ rfl rfl (o_eqI rfl rfl) ?_
            refine RG.op _ _ rfl rfl (o_move (.v _) rfl) ?_
            refine RG.opg1 _ _ _ _ _ rfl rfl rfl rfl rfl (fun hb => o_move (.rd _ _) rfl) ?_
            refine RG.opg1 _ _ _ _ _ rfl rfl rfl rfl rfl (fun hb => o_len_rd (gdT hb) Try.underlying22) ?_
            refine RG.opg1 _ _ _ _ _ rfl rfl rfl rfl rfl (fun hb => o_move (.v _) rfl) ?_
            refine RG.opg1 _ _ _ _ _ rfl rfl rfl rfl rfl (fun hb => o_eqI (gdT hb) (gdT hb)) ?_
            refine RG.op _ _ rfl rfl (o_and _ _ rfl rfl rfl) ?_
            refine RG.op _ _ rfl rfl (o_move (.v _) rfl) ?_
            refine RG.opg1 _ _ _ _ _ rfl rfl rfl rfl rfl (fun hb => o_move (.rd _ _) rfl) ?_
            refine RG.opg1 _ _ _ _ _ rfl rfl rfl rfl rfl (fun hb => o_str_rd (gdT hb) Try.underlying24 Try.underlying5 Try.underlying9) ?_
            refine RG.opg1 _ _ _ _ _ rfl rfl rfl rfl rfl (fun hb => o_move (.rd _ _) rfl) ?_
            refine RG.opg1 _ _ _ _ _ rfl rfl rfl rfl rfl (fun hb => o_str_rd (gdT hb) Try.underlying24 Try.underlying5 Try.underlying9) ?_
            refine RG.opg1 _ _ _ _ _ rfl rfl rfl rfl rfl (fun hb => o_eqS' (gdT hb) (gdT hb)) ?_
            refine RG.op _ _ rfl rfl (o_and _ _ rfl rfl rfl) ?_
            refine RG.op _ _ rfl rfl (o_move (.v _) rfl) ?_
            refine RG.opg1 _ _ _ _ _ rfl rfl rfl rfl rfl (fun hb => o_call Ty.cal15 (puts6_c) trivial (by exact pua rfl)) ?_
            refine RG.op _ _ rfl rfl (o_and _ _ rfl rfl rfl) ?_
            refine RG.op _ _ rfl rfl (o_assign (.v _) rfl) ?_
            refine RG.nil (h31_ _ ?_)
            refine WC.ret ?_
            exact Ends.r1 rfl (.tmp _ (.v _) rfl) (.v _) (congrArg Bo (by simp [hbl]))
end Go.Proofs.Ytpdjcfhmdeeikaa
namespace Go.Proofs.Ytpdjcfhmdeeikaa
open Go.RowKit Go.DL

theorem pickL_then {b v : Val} (h : lessM v b = true) : pickL b v = v := by unfold pickL; rw [if_pos h]
theorem pickL_else {b v : Val} (h : lessM v b = false) : pickL b v = b := by unfold pickL; rw [if_neg (by rw [h]; decide)]
theorem pickG_then {b v : Val} (h : lessM b v = true) : pickG b v = v := by unfold pickG; rw [if_pos h]
theorem pickG_else {b v : Val} (h : lessM b v = false) : pickG b v = b := by unfold pickG; rw [if_neg (by rw [h]; decide)]
theorem heq5 {a0 a1 a2 a3 a3' a4 a4' : Option Blk} (h3 : a3 = a3') (h4 : a4 = a4') : [a0, a1, a2, a3, a4] = [a0, a1, a2, a3', a4'] := by rw [h3, h4]
set_option maxRecDepth 20000 in
set_option maxHeartbeats 4000000 in
theorem rbounds_c (l : List Val) (hl : l.length ≤ 1099511627776) : Fun Try.prog 20 [rdV l] (· = .tup [VD (bndL l), VD (bndG l)]) := by
  have hml := mks_len l
  refine Fun.of Try.func20 rfl (Nat.le_of_ble_eq_true rfl) fun C => ?_
  refine WC.seq fun Fh1_ h1_ => ?_
  refine WC.region ?_
  refine RG.op _ _ rfl rfl (o_alloc (z_of Ty.inf36) rfl) ?_
  refine RG.op _ _ rfl rfl (o_alloc (z_of Ty.inf36) rfl) ?_
  refine RG.nil (h1_ _ ?_)
  refine WC.seq fun Fh2_ h2_ => ?_
  refine WC.region ?_
  refine RG.op _ _ rfl rfl (o_nil 36 3) ?_
  refine RG.nil (h2_ _ ?_)
  refine WC.seq fun Fh3_ h3_ => ?_
  refine WC.seq fun Fh4_ h4_ => ?_
  refine WC.region ?_
  refine RG.op _ _ rfl rfl (o_assign (.v _) rfl) ?_
  refine RG.nil (h4_ _ ?_)
  refine WC.block ?_
  refine WC.loopU [4, 5, 9, 10, 11, 12, 13, 14, 15, 16, 17, 18, 19, 20, 21, 22, 23, 24, 25, 26, 27] (fun (k : Nat) => [(5, I64 ((k : Nat) : Int)), (4, ow 2 (mks (l.take k)).length 3)]) (fun (k : Nat) => [(2, tb 36 (mks (l.take k)).length ((mks (l.take k)).flatMap vc))]) (fun (k : Nat) => k ≤ l.length) (fun (k : Nat) => l.length - k) 0 (by first | omega | exact ubyte _ | (simp only [LS] <;> omega)) ?lpa5_ ?lpb6_
  case lpa5_ =>
    exact .mk' ⟨⟨rfl, .v _⟩, ⟨rfl, (by first | exact .own _ _ _ _ _ (Nat.le_refl _) | exact .ptr _ _ _ (Nat.le_refl _) | exact .omp _ _ (Nat.le_refl _))⟩, trivial⟩ (same_refl _ _) (rfl) (by repeat (first | exact trivial | refine And.intro (Nat.le_refl _) ?_ | refine And.intro trivial ?_ | refine And.intro (by show _ ≤ _; (first | omega | (simp only [LS] <;> omega))) ?_)) (by repeat (first | exact trivial | refine And.intro (one_ok (.own _ _ _ _ _ (Nat.le_refl _))) ?_ | refine And.intro (okp (by repeat (first | exact pu_bytes _ | exact pu_nil | exact pu_vs rfl | exact pu_map (fun _ => .v _) _ | exact pu_vals _ | refine pu_app ?_ ?_ | refine pu_cons (by exact pu_of rfl) ?_))) ?_))
  case lpb6_ =>
    rintro k hI
    have hkm := mks_len (l.take k)
    rw [List.length_take] at hkm
    refine WC.seq fun Fh7_ h7_ => ?_
    refine WC.seq fun Fh8_ h8_ => ?_
    refine WC.region ?_
    refine RG.op _ _ rfl rfl (o_move (.v _) rfl) ?_
    refine RG.op _ _ rfl rfl (o_move (.rd _ _) rfl) ?_
    refine RG.op _ _ rfl rfl (o_len_rd rfl Try.underlying22) ?_
    refine RG.op _ _ rfl rfl (o_ltI rfl rfl) ?_
    refine RG.nil (h8_ _ ?_)
    refine WC.cond _ rfl (fun c3 => ?_) (fun c3 => ?_)
    ·
      have p3 := c3
      try simp only [CN] at p3
      have hkl : k < l.length := by omega
      have hmt := congrArg List.length (mks_take hkl)
      refine WC.skip (h7_ _ ?_)
      refine WC.seq fun Fh9_ h9_ => ?_
      refine WC.block ?_
      refine WC.seq fun Fh10_ h10_ => ?_
      refine WC.region ?_
      refine RG.op _ _ rfl rfl (o_move (.rd _ _) rfl) ?_
      refine RG.op _ _ rfl rfl (o_move (.v _) rfl) ?_
      refine RG.op _ _ rfl rfl (o_ixn_L k vc_len rfl rfl rfl Try.underlying22 (sz_of Ty.inf36) (by first | omega | exact ubyte _ | (simp only [LS] <;> omega)) (by first | omega | exact ubyte _ | (simp only [LS] <;> omega))) ?_
      refine RG.op _ _ rfl rfl (o_fld_adr rfl Try.underlying36 rfl (sz_of Ty.inf5) (by decide)) ?_
      refine RG.op _ _ rfl rfl (o_load_adr rfl Try.underlying5 rfl rfl) ?_
      refine RG.op _ _ rfl rfl (o_neB (b := 0) rfl rfl) ?_
      refine RG.nil (h10_ _ ?_)
      refine WC.cond _ rfl (fun c5 => ?_) (fun c5 => ?_)
      ·
        have p5 := c5
        try simp only [CN] at p5
        refine WC.region ?_
        refine RG.op _ _ rfl rfl (o_move (.own _ _ _ _ _) rfl) ?_
        refine RG.op _ _ rfl rfl (o_move (.rd _ _) rfl) ?_
        refine RG.op _ _ rfl rfl (o_move (.v _) rfl) ?_
        refine RG.op _ _ rfl rfl (o_ixn_L k vc_len rfl rfl rfl Try.underlying22 (sz_of Ty.inf36) (by first | omega | exact ubyte _ | (simp only [LS] <;> omega)) (by first | omega | exact ubyte _ | (simp only [LS] <;> omega))) ?_
        refine RG.op _ _ rfl rfl (o_load_adr_L (xs := [_, _, _]) rfl Try.underlying36 rfl (sz_of Ty.inf36) rfl) ?_
        refine RG.op _ _ rfl rfl (o_litP (cs := [_, _, _]) Try.underlying22 Ty.inf36 rfl rfl rfl rfl (by repeat (first | exact pu_bytes _ | exact pu_nil | exact pu_vs rfl | exact pu_map (fun _ => .v _) _ | exact pu_vals _ | refine pu_app ?_ ?_ | refine pu_cons (by exact pu_of rfl) ?_))) ?_
        refine RG.op _ _ rfl rfl (o_appT (Elem.of Try.underlying22 Ty.inf36 rfl (by decide)) rfl rfl rfl (by first | omega | exact ubyte _ | (simp only [LS] <;> omega)) (by first | omega | exact ubyte _ | (simp only [LS] <;> omega)) (by repeat (first | exact bytesD_one _ | exact one_nil | exact one_map (fun _ => rfl) _ | exact one_vals _ | refine one_app ?_ ?_ | refine one_cons rfl ?_)) (by first | omega | exact ubyte _ | (simp only [LS] <;> omega)) (by first | omega | exact ubyte _ | (simp only [LS] <;> omega))) ?_
        refine RG.op _ _ rfl rfl (o_assign (.own _ _ _ _ _) rfl) ?_
        refine RG.nil (h9_ _ ?_)
        refine WC.region ?_
        refine RG.op _ _ rfl rfl (o_move (.v _) rfl) ?_
        refine RG.op _ _ rfl rfl (o_add rfl rfl (by first | omega | exact ubyte _ | (simp only [LS] <;> omega)) (by first | omega | exact ubyte _ | (simp only [LS] <;> omega))) ?_
        refine RG.op _ _ rfl rfl (o_assign (.v _) rfl) ?_
        refine RG.nil (Exists.intro (k + 1) ⟨by first | omega | (simp only [LS] <;> omega), by first | omega | (simp only [LS] <;> omega), ?_⟩)
        exact .mk' ⟨⟨rfl, .v _⟩, ⟨ow_eq (by rw [mks_take hkl, if_neg p5]; simp), (by first | exact .own _ _ _ _ _ (Nat.le_refl _) | exact .ptr _ _ _ (Nat.le_refl _) | exact .omp _ _ (Nat.le_refl _))⟩, trivial⟩ (by repeat (first | with_reducible exact same_refl _ _ | with_reducible refine same_updO (by with_unfolding_all exact rfl) ?_ | with_reducible refine same_updN ?_ | with_reducible refine same_updL (by with_unfolding_all exact rfl) ?_ | with_reducible refine same_forget (by with_unfolding_all exact rfl) ?_)) (heq3 rfl rfl (tb_eq (by rw [mks_take hkl, if_neg p5]; simp) (by rw [mks_take hkl, if_neg p5]; simp [vc]))) (by repeat (first | exact trivial | refine And.intro (Nat.le_refl _) ?_ | refine And.intro trivial ?_ | refine And.intro (by show _ ≤ _; (first | omega | (simp only [LS] <;> omega))) ?_)) (by repeat (first | exact trivial | refine And.intro (one_ok (.own _ _ _ _ _ (Nat.le_refl _))) ?_ | refine And.intro (okp (by repeat (first | exact pu_bytes _ | exact pu_nil | exact pu_vs rfl | exact pu_map (fun _ => .v _) _ | exact pu_vals _ | refine pu_app ?_ ?_ | refine pu_cons (by exact pu_of rfl) ?_))) ?_))
      ·
        have p5 := c5
        try simp only [CN] at p5
        refine WC.skip (h9_ _ ?_)
        refine WC.region ?_
        refine RG.op _ _ rfl rfl (o_move (.v _) rfl) ?_
        refine RG.op _ _ rfl rfl (o_add rfl rfl (by first | omega | exact ubyte _ | (simp only [LS] <;> omega)) (by first | omega | exact ubyte _ | (simp only [LS] <;> omega))) ?_
        refine RG.op _ _ rfl rfl (o_assign (.v _) rfl) ?_
        refine RG.nil (Exists.intro (k + 1) ⟨by first | omega | (simp only [LS] <;> omega), by first | omega | (simp only [LS] <;> omega), ?_⟩)
        exact .mk' ⟨⟨rfl, .v _⟩, ⟨ow_eq (by rw [mks_take hkl, if_pos p5]; simp), (by first | exact .own _ _ _ _ _ (Nat.le_refl _) | exact .ptr _ _ _ (Nat.le_refl _) | exact .omp _ _ (Nat.le_refl _))⟩, trivial⟩ (by repeat (first | with_reducible exact same_refl _ _ | with_reducible refine same_updO (by with_unfolding_all exact rfl) ?_ | with_reducible refine same_updN ?_ | with_reducible refine same_updL (by with_unfolding_all exact rfl) ?_ | with_reducible refine same_forget (by with_unfolding_all exact rfl) ?_)) (heq3 rfl rfl (tb_eq (by rw [mks_take hkl, if_pos p5]; simp) (by rw [mks_take hkl, if_pos p5]; simp))) (by repeat (first | exact trivial | refine And.intro (Nat.le_refl _) ?_ | refine And.intro trivial ?_ | refine And.intro (by show _ ≤ _; (first | omega | (simp only [LS] <;> omega))) ?_)) (by repeat (first | exact trivial | refine And.intro (one_ok (.own _ _ _ _ _ (Nat.le_refl _))) ?_ | refine And.intro (okp (by repeat (first | exact pu_bytes _ | exact pu_nil | exact pu_vs rfl | exact pu_map (fun _ => .v _) _ | exact pu_vals _ | refine pu_app ?_ ?_ | refine pu_cons (by exact pu_of rfl) ?_))) ?_))
    ·
      have p3 := c3
      try simp only [CN] at p3
      refine WC.exit (h3_ _ ?_)
      refine WC.seq fun Fh11_ h11_ => ?_
      refine WC.seq fun Fh12_ h12_ => ?_
      have hke : k = l.length := by omega
      subst hke
      have htl : mks (l.take l.length) = mks l := by rw [List.take_length]
      have htl2 : (mks (l.take l.length)).length = (mks l).length := by rw [htl]
      refine WC.region ?_
      refine RG.op _ _ rfl rfl (o_move (.own _ _ _ _ _) rfl) ?_
      refine RG.op _ _ rfl rfl (o_len_own rfl Try.underlying22) ?_
      refine RG.op _ _ rfl rfl (o_eqI rfl rfl) ?_
      refine RG.nil (h12_ _ ?_)
      refine WC.cond _ rfl (fun c7 => ?_) (fun c7 => ?_)
      ·
        have p7 := c7
        try simp only [CN] at p7
        have hnil : mks l = [] := List.length_eq_zero_iff.1 (by omega)
        refine WC.seq fun Fh13_ h13_ => ?_
        refine WC.region ?_
        refine RG.op _ _ rfl rfl (o_build (cs := [B8 0, I64 0, S []]) Try.underlying36 Ty.inf36 (Ty.pl36 Try.underlying36) rfl) ?_
        refine RG.op _ _ rfl rfl (o_build (cs := [B8 0, I64 0, S []]) Try.underlying36 Ty.inf36 (Ty.pl36 Try.underlying36) rfl) ?_
        refine RG.op _ _ rfl rfl (o_store (d := (.agg [_, _, _])) rfl rfl rfl rfl (sz_of Ty.inf36) (Nat.le_of_ble_eq_true rfl) rfl) ?_
        refine RG.op _ _ rfl rfl (o_store (d := (.agg [_, _, _])) rfl rfl rfl rfl (sz_of Ty.inf36) (Nat.le_of_ble_eq_true rfl) rfl) ?_
        refine RG.nil (h13_ _ ?_)
        refine WC.ret ?_
        exact Ends.r2 rfl (.agg rfl Try.underlying36 rfl (sz_of Ty.inf36) rfl rfl rfl) (.agg rfl Try.underlying36 rfl (sz_of Ty.inf36) rfl rfl rfl) (.pure' (by exact pu_of rfl)) (.pure' (by exact pu_of rfl)) (by unfold bndL bndG; rw [hnil]; rfl)
      ·
        have p7 := c7
        try simp only [CN] at p7
        refine WC.skip (h11_ _ ?_)
        refine WC.seq fun Fh14_ h14_ => ?_
        have hpos : 0 < (mks l).length := by omega
        have hc0 := List.drop_eq_getElem_cons (l := mks l) (i := 0) hpos
        refine WC.frz 2 _ [(4, rdV (mks l))] rfl (by repeat (first | exact pu_bytes _ | exact pu_nil | exact pu_vs rfl | exact pu_map (fun _ => .v _) _ | exact pu_vals _ | refine pu_app ?_ ?_ | refine pu_cons (by exact pu_of rfl) ?_)) ⟨.rowE rfl (by first | rfl | omega | (simp; done) | (simp; omega)) (by first | rfl | simp [bytesD]), trivial⟩ ?_
        refine WC.region ?_
        refine RG.op _ _ rfl rfl (o_move (.rd _ _) rfl) ?_
        refine RG.op _ _ rfl rfl (o_ixn_L 0 vc_len rfl rfl rfl Try.underlying22 (sz_of Ty.inf36) (by first | omega | exact ubyte _ | (simp only [LS] <;> omega)) (by first | omega | exact ubyte _ | (simp only [LS] <;> omega))) ?_
        refine RG.op _ _ rfl rfl (o_load_adr_L (xs := [_, _, _]) rfl Try.underlying36 rfl (sz_of Ty.inf36) rfl) ?_
        refine RG.op _ _ rfl rfl (o_alloc (z_of Ty.inf36) rfl) ?_
        refine RG.op _ _ rfl rfl (o_store (d := (.agg [_, _, _])) rfl rfl rfl rfl (sz_of Ty.inf36) (Nat.le_of_ble_eq_true rfl) rfl) ?_
        refine RG.nil (h14_ _ ?_)
        refine WC.seq fun Fh15_ h15_ => ?_
        refine WC.region ?_
        refine RG.op _ _ rfl rfl (o_move (.rd _ _) rfl) ?_
        refine RG.op _ _ rfl rfl (o_ixn_L 0 vc_len rfl rfl rfl Try.underlying22 (sz_of Ty.inf36) (by first | omega | exact ubyte _ | (simp only [LS] <;> omega)) (by first | omega | exact ubyte _ | (simp only [LS] <;> omega))) ?_
        refine RG.op _ _ rfl rfl (o_load_adr_L (xs := [_, _, _]) rfl Try.underlying36 rfl (sz_of Ty.inf36) rfl) ?_
        refine RG.op _ _ rfl rfl (o_alloc (z_of Ty.inf36) rfl) ?_
        refine RG.op _ _ rfl rfl (o_store (d := (.agg [_, _, _])) rfl rfl rfl rfl (sz_of Ty.inf36) (Nat.le_of_ble_eq_true rfl) rfl) ?_
        refine RG.nil (h15_ _ ?_)
        refine WC.seq fun Fh16_ h16_ => ?_
        refine WC.seq fun Fh17_ h17_ => ?_
        refine WC.region ?_
        refine RG.op _ _ rfl rfl (o_assign (.v _) rfl) ?_
        refine RG.nil (h17_ _ ?_)
        refine WC.block ?_
        refine WC.loopU [8, 39, 40, 41, 42, 43, 44, 45, 46, 47, 48, 49, 50, 51, 52, 53, 54, 55, 56, 57, 58, 59, 60, 61, 62, 63, 64] (fun (p : Nat × Val × Val) => [(8, I64 ((p.1 : Nat) : Int))]) (fun (p : Nat × Val × Val) => [(3, some ⟨vc p.2.1, 36, false, 0⟩), (4, some ⟨vc p.2.2, 36, false, 0⟩)]) (fun (p : Nat × Val × Val) => 1 ≤ p.1 ∧ p.1 ≤ (mks l).length ∧ bndL l = ((mks l).drop p.1).foldl pickL p.2.1 ∧ bndG l = ((mks l).drop p.1).foldl pickG p.2.2) (fun (p : Nat × Val × Val) => (mks l).length - p.1) (1, (mks l)[0], (mks l)[0]) ⟨Nat.le_refl _, hpos, by unfold bndL; rw [List.drop_zero] at hc0; conv => lhs; rw [hc0], by unfold bndG; rw [List.drop_zero] at hc0; conv => lhs; rw [hc0]⟩ ?lpa18_ ?lpb19_
        case lpa18_ =>
          exact .mk' ⟨⟨rfl, .v _⟩, trivial⟩ (same_refl _ _) (rfl) (by repeat (first | exact trivial | refine And.intro (Nat.le_refl _) ?_ | refine And.intro trivial ?_ | refine And.intro (by show _ ≤ _; (first | omega | (simp only [LS] <;> omega))) ?_)) (by repeat (first | exact trivial | refine And.intro (one_ok (.own _ _ _ _ _ (Nat.le_refl _))) ?_ | refine And.intro (okp (by repeat (first | exact pu_bytes _ | exact pu_nil | exact pu_vs rfl | exact pu_map (fun _ => .v _) _ | exact pu_vals _ | refine pu_app ?_ ?_ | refine pu_cons (by exact pu_of rfl) ?_))) ?_))
        case lpb19_ =>
          rintro p hI
          have hk1 := hI.1
          have hk2 := hI.2.1
          have hk3 := hI.2.2.1
          have hk4 := hI.2.2.2
          refine WC.seq fun Fh20_ h20_ => ?_
          refine WC.seq fun Fh21_ h21_ => ?_
          refine WC.region ?_
          refine RG.op _ _ rfl rfl (o_move (.v _) rfl) ?_
          refine RG.op _ _ rfl rfl (o_move (.rd _ _) rfl) ?_
          refine RG.op _ _ rfl rfl (o_len_rd rfl Try.underlying22) ?_
          refine RG.op _ _ rfl rfl (o_ltI rfl rfl) ?_
          refine RG.nil (h21_ _ ?_)
          refine WC.cond _ rfl (fun c12 => ?_) (fun c12 => ?_)
          ·
            have p12 := c12
            try simp only [CN] at p12
            have hkl : p.1 < (mks l).length := by omega
            refine WC.skip (h20_ _ ?_)
            refine WC.seq fun Fh22_ h22_ => ?_
            refine WC.block ?_
            refine WC.joinU [45, 46, 47, 48, 49, 50, 51, 52, 53, 54] (fun (u : Unit) => []) (fun (u : Unit) => [(3, some ⟨vc (pickL p.2.1 ((mks l)[p.1]'hkl)), 36, false, 0⟩)]) (fun (u : Unit) => True) ?_ ?_
            ·
              refine WC.seq fun Fh23_ h23_ => ?_
              refine WC.drawn1 (by kernel_rfl) ?_
              refine PG.op _ rfl rfl rfl (by rintro _ rfl; exact o_move (.rd _ _) rfl) ?_
              refine PG.op _ rfl rfl rfl (by rintro _ rfl; exact o_move (.v _) rfl) ?_
              refine PG.op _ rfl rfl rfl (by rintro _ rfl; exact o_ixn_L p.1 vc_len rfl rfl rfl Try.underlying22 (sz_of Ty.inf36) (by first | omega | exact ubyte _ | (simp only [LS] <;> omega)) (by first | omega | exact ubyte _ | (simp only [LS] <;> omega))) ?_
              refine PG.op _ rfl rfl rfl (by rintro _ rfl; exact o_load_adr_L (xs := [_, _, _]) rfl Try.underlying36 rfl (sz_of Ty.inf36) rfl) ?_
              refine PG.op _ rfl rfl rfl (by rintro _ rfl; exact o_load_ptr_L (xs := [_, _, _]) rfl Try.underlying36 rfl (sz_of Ty.inf36) rfl rfl rfl rfl) ?_
              refine PG.op _ rfl rfl rfl (by rintro _ rfl; exact o_call (ds := [VD ((mks l)[p.1]'hkl), VD p.2.1]) Ty.cal22 (less_c _ _) ⟨.inl rfl, .inl rfl, trivial⟩ (by exact pua rfl)) ?_
              refine PG.nil ⟨by kernel_rfl, rfl, (h23_ _ ?_)⟩
              refine WC.cond _ rfl (fun c14 => ?_) (fun c14 => ?_)
              ·
                have p14 := c14
                try simp only [CN] at p14
                refine WC.region ?_
                refine RG.op _ _ rfl rfl (o_move (.rd _ _) rfl) ?_
                refine RG.op _ _ rfl rfl (o_move (.v _) rfl) ?_
                refine RG.op _ _ rfl rfl (o_ixn_L p.1 vc_len rfl rfl rfl Try.underlying22 (sz_of Ty.inf36) (by first | omega | exact ubyte _ | (simp only [LS] <;> omega)) (by first | omega | exact ubyte _ | (simp only [LS] <;> omega))) ?_
                refine RG.op _ _ rfl rfl (o_load_adr_L (xs := [_, _, _]) rfl Try.underlying36 rfl (sz_of Ty.inf36) rfl) ?_
                refine RG.op _ _ rfl rfl (o_store (d := (.agg [_, _, _])) rfl rfl rfl rfl (sz_of Ty.inf36) (Nat.le_of_ble_eq_true rfl) rfl) ?_
                refine RG.nil (Exists.intro (()) ⟨by first | omega | (simp only [LS] <;> omega), ?_⟩)
                exact .mk' trivial (by repeat (first | with_reducible exact same_refl _ _ | with_reducible refine same_updO (by with_unfolding_all exact rfl) ?_ | with_reducible refine same_updN ?_ | with_reducible refine same_updL (by with_unfolding_all exact rfl) ?_ | with_reducible refine same_forget (by with_unfolding_all exact rfl) ?_)) (heq5 (mb_eq (by rw [pickL_then c14]; rfl)) rfl) (by repeat (first | exact trivial | refine And.intro (Nat.le_refl _) ?_ | refine And.intro trivial ?_ | refine And.intro (by show _ ≤ _; (first | omega | (simp only [LS] <;> omega))) ?_)) (by repeat (first | exact trivial | refine And.intro (one_ok (.own _ _ _ _ _ (Nat.le_refl _))) ?_ | refine And.intro (okp (by repeat (first | exact pu_bytes _ | exact pu_nil | exact pu_vs rfl | exact pu_map (fun _ => .v _) _ | exact pu_vals _ | refine pu_app ?_ ?_ | refine pu_cons (by exact pu_of rfl) ?_))) ?_))
              ·
                have p14 := c14
                try simp only [CN] at p14
                refine WC.skip (Exists.intro (()) ⟨by first | omega | (simp only [LS] <;> omega), ?_⟩)
                exact .mk' trivial (by repeat (first | with_reducible exact same_refl _ _ | with_reducible refine same_updO (by with_unfolding_all exact rfl) ?_ | with_reducible refine same_updN ?_ | with_reducible refine same_updL (by with_unfolding_all exact rfl) ?_ | with_reducible refine same_forget (by with_unfolding_all exact rfl) ?_)) (heq5 (mb_eq (by rw [pickL_else c14])) rfl) (by repeat (first | exact trivial | refine And.intro (Nat.le_refl _) ?_ | refine And.intro trivial ?_ | refine And.intro (by show _ ≤ _; (first | omega | (simp only [LS] <;> omega))) ?_)) (by repeat (first | exact trivial | refine And.intro (one_ok (.own _ _ _ _ _ (Nat.le_refl _))) ?_ | refine And.intro (okp (by repeat (first | exact pu_bytes _ | exact pu_nil | exact pu_vs rfl | exact pu_map (fun _ => .v _) _ | exact pu_vals _ | refine pu_app ?_ ?_ | refine pu_cons (by exact pu_of rfl) ?_))) ?_))
            ·
              rintro u hI
              refine WC.seq fun Fh24_ h24_ => ?_
              refine WC.drawn1 (by kernel_rfl) ?_
              refine PG.op _ rfl rfl rfl (by rintro _ rfl; exact o_load_ptr_L (xs := [_, _, _]) rfl Try.underlying36 rfl (sz_of Ty.inf36) rfl rfl rfl rfl) ?_
              refine PG.op _ rfl rfl rfl (by rintro _ rfl; exact o_move (.rd _ _) rfl) ?_
              refine PG.op _ rfl rfl rfl (by rintro _ rfl; exact o_move (.v _) rfl) ?_
              refine PG.op _ rfl rfl rfl (by rintro _ rfl; exact o_ixn_L p.1 vc_len rfl rfl rfl Try.underlying22 (sz_of Ty.inf36) (by first | omega | exact ubyte _ | (simp only [LS] <;> omega)) (by first | omega | exact ubyte _ | (simp only [LS] <;> omega))) ?_
              refine PG.op _ rfl rfl rfl (by rintro _ rfl; exact o_load_adr_L (xs := [_, _, _]) rfl Try.underlying36 rfl (sz_of Ty.inf36) rfl) ?_
              refine PG.op _ rfl rfl rfl (by rintro _ rfl; exact o_call (ds := [VD p.2.2, VD ((mks l)[p.1]'hkl)]) Ty.cal22 (less_c _ _) ⟨.inl rfl, .inl rfl, trivial⟩ (by exact pua rfl)) ?_
              refine PG.nil ⟨by kernel_rfl, rfl, (h24_ _ ?_)⟩
              refine WC.cond _ rfl (fun c16 => ?_) (fun c16 => ?_)
              ·
                have p16 := c16
                try simp only [CN] at p16
                refine WC.region ?_
                refine RG.op _ _ rfl rfl (o_move (.rd _ _) rfl) ?_
                refine RG.op _ _ rfl rfl (o_move (.v _) rfl) ?_
                refine RG.op _ _ rfl rfl (o_ixn_L p.1 vc_len rfl rfl rfl Try.underlying22 (sz_of Ty.inf36) (by first | omega | exact ubyte _ | (simp only [LS] <;> omega)) (by first | omega | exact ubyte _ | (simp only [LS] <;> omega))) ?_
                refine RG.op _ _ rfl rfl (o_load_adr_L (xs := [_, _, _]) rfl Try.underlying36 rfl (sz_of Ty.inf36) rfl) ?_
                refine RG.op _ _ rfl rfl (o_store (d := (.agg [_, _, _])) rfl rfl rfl rfl (sz_of Ty.inf36) (Nat.le_of_ble_eq_true rfl) rfl) ?_
                refine RG.nil (h22_ _ ?_)
                refine WC.region ?_
                refine RG.op _ _ rfl rfl (o_move (.v _) rfl) ?_
                refine RG.op _ _ rfl rfl (o_add rfl rfl (by first | omega | exact ubyte _ | (simp only [LS] <;> omega)) (by first | omega | exact ubyte _ | (simp only [LS] <;> omega))) ?_
                refine RG.op _ _ rfl rfl (o_assign (.v _) rfl) ?_
                refine RG.nil (Exists.intro ((p.1 + 1, pickL p.2.1 ((mks l)[p.1]'hkl), pickG p.2.2 ((mks l)[p.1]'hkl))) ⟨⟨by show 1 ≤ p.1 + 1; omega, by show p.1 + 1 ≤ _; omega, by rw [hk3, List.drop_eq_getElem_cons hkl, List.foldl_cons], by rw [hk4, List.drop_eq_getElem_cons hkl, List.foldl_cons]⟩, by show (mks l).length - (p.1 + 1) < _; omega, ?_⟩)
                exact .mk' ⟨⟨rfl, .v _⟩, trivial⟩ (by repeat (first | with_reducible exact same_refl _ _ | with_reducible refine same_updO (by with_unfolding_all exact rfl) ?_ | with_reducible refine same_updN ?_ | with_reducible refine same_updL (by with_unfolding_all exact rfl) ?_ | with_reducible refine same_forget (by with_unfolding_all exact rfl) ?_)) (heq5 rfl (mb_eq (by rw [pickG_then c16]; rfl))) (by repeat (first | exact trivial | refine And.intro (Nat.le_refl _) ?_ | refine And.intro trivial ?_ | refine And.intro (by show _ ≤ _; (first | omega | (simp only [LS] <;> omega))) ?_)) (by repeat (first | exact trivial | refine And.intro (one_ok (.own _ _ _ _ _ (Nat.le_refl _))) ?_ | refine And.intro (okp (by repeat (first | exact pu_bytes _ | exact pu_nil | exact pu_vs rfl | exact pu_map (fun _ => .v _) _ | exact pu_vals _ | refine pu_app ?_ ?_ | refine pu_cons (by exact pu_of rfl) ?_))) ?_))
              ·
                have p16 := c16
                try simp only [CN] at p16
                refine WC.skip (h22_ _ ?_)
                refine WC.region ?_
                refine RG.op _ _ rfl rfl (o_move (.v _) rfl) ?_
                refine RG.op _ _ rfl rfl (o_add rfl rfl (by first | omega | exact ubyte _ | (simp only [LS] <;> omega)) (by first | omega | exact ubyte _ | (simp only [LS] <;> omega))) ?_
                refine RG.op _ _ rfl rfl (o_assign (.v _) rfl) ?_
                refine RG.nil (Exists.intro ((p.1 + 1, pickL p.2.1 ((mks l)[p.1]'hkl), pickG p.2.2 ((mks l)[p.1]'hkl))) ⟨⟨by show 1 ≤ p.1 + 1; omega, by show p.1 + 1 ≤ _; omega, by rw [hk3, List.drop_eq_getElem_cons hkl, List.foldl_cons], by rw [hk4, List.drop_eq_getElem_cons hkl, List.foldl_cons]⟩, by show (mks l).length - (p.1 + 1) < _; omega, ?_⟩)
                exact .mk' ⟨⟨rfl, .v _⟩, trivial⟩ (by repeat (first | with_reducible exact same_refl _ _ | with_reducible refine same_updO (by with_unfolding_all exact rfl) ?_ | with_reducible refine same_updN ?_ | with_reducible refine same_updL (by with_unfolding_all exact rfl) ?_ | with_reducible refine same_forget (by with_unfolding_all exact rfl) ?_)) (heq5 rfl (mb_eq (by rw [pickG_else c16]))) (by repeat (first | exact trivial | refine And.intro (Nat.le_refl _) ?_ | refine And.intro trivial ?_ | refine And.intro (by show _ ≤ _; (first | omega | (simp only [LS] <;> omega))) ?_)) (by repeat (first | exact trivial | refine And.intro (one_ok (.own _ _ _ _ _ (Nat.le_refl _))) ?_ | refine And.intro (okp (by repeat (first | exact pu_bytes _ | exact pu_nil | exact pu_vs rfl | exact pu_map (fun _ => .v _) _ | exact pu_vals _ | refine pu_app ?_ ?_ | refine pu_cons (by exact pu_of rfl) ?_))) ?_))
          ·
            have p12 := c12
            try simp only [CN] at p12
            refine WC.exit (h16_ _ ?_)
            refine WC.seq fun Fh25_ h25_ => ?_
            refine WC.drawn3 (fun H => H[3]? = some (some ⟨vc p.2.1, 36, false, 0⟩) ∧ H[4]? = some (some ⟨vc p.2.2, 36, false, 0⟩)) (by kernel_rfl) (⟨rfl, rfl⟩) ?_
            refine PG.op _ rfl rfl rfl (fun _ hH => o_load_ptr_L (xs := [_, _, _]) rfl Try.underlying36 rfl (sz_of Ty.inf36) hH.1 rfl rfl rfl) ?_
            refine PG.op _ rfl rfl rfl (fun _ hH => o_load_ptr_L (xs := [_, _, _]) rfl Try.underlying36 rfl (sz_of Ty.inf36) hH.2 rfl rfl rfl) ?_
            refine PG.opm _ _ rfl rfl rfl (o_store (d := (.agg [_, _, _])) rfl rfl rfl rfl (sz_of Ty.inf36) (Nat.le_of_ble_eq_true rfl) rfl) ?_
            refine PG.opm _ _ rfl rfl rfl (o_store (d := (.agg [_, _, _])) rfl rfl rfl rfl (sz_of Ty.inf36) (Nat.le_of_ble_eq_true rfl) rfl) ?_
            refine PG.nil ⟨by kernel_rfl, List.forall_mem_cons.2 ⟨noHs rfl, List.forall_mem_cons.2 ⟨noHs rfl, List.forall_mem_cons.2 ⟨fun _ => ⟨rfl, rfl⟩, List.forall_mem_cons.2 ⟨fun _ => ⟨rfl, rfl⟩, List.forall_mem_nil _⟩⟩⟩⟩, (h25_ _ ?_)⟩
            refine WC.ret ?_
            exact Ends.r2 rfl (.agg rfl Try.underlying36 rfl (sz_of Ty.inf36) rfl rfl rfl) (.agg rfl Try.underlying36 rfl (sz_of Ty.inf36) rfl rfl rfl) (.pure' (by exact pu_of rfl)) (.pure' (by exact pu_of rfl)) (by have hdn : (mks l).drop p.1 = [] := List.drop_eq_nil_of_le (by omega); rw [hdn] at hk3 hk4; show D.tup [VD p.2.1, VD p.2.2] = D.tup [VD (bndL l), VD (bndG l)]; rw [hk3, hk4]; rfl)
end Go.Proofs.Ytpdjcfhmdeeikaa
namespace Go.Proofs.Ytpdjcfhmdeeikaa
open Go.RowKit Go.DL

set_option maxRecDepth 20000 in
set_option maxHeartbeats 4000000 in
theorem colbounds_c (l : List Val) (hl : l.length ≤ 9223372036854775807) : Fun Try.prog 5 [rdV l] (· = Bo true) := by
  refine Fun.of Try.func5 rfl (Nat.le_of_ble_eq_true rfl) fun C => ?_
  refine WC.seq fun Fh1_ h1_ => ?_
  refine WC.region ?_
  refine RG.op _ _ rfl rfl (o_assign (.v _) rfl) ?_
  refine RG.nil (h1_ _ ?_)
  refine WC.seq fun Fh2_ h2_ => ?_
  refine WC.seq fun Fh3_ h3_ => ?_
  refine WC.region ?_
  refine RG.op _ _ rfl rfl (o_move (.rd _ _) rfl) ?_
  refine RG.op _ _ rfl rfl (o_call Ty.cal11 (long6_c _ (by first | omega | exact ubyte _ | (simp only [LS] <;> omega))) ⟨.inl rfl, trivial⟩ (by exact pua rfl)) ?_
  refine RG.nil (h3_ _ ?_)
  refine WC.cond _ rfl (fun c1 => ?_) (fun c1 => ?_)
  ·
    have p1 := c1
    try simp only [CN] at p1
    refine WC.seq fun Fh4_ h4_ => ?_
    refine WC.region ?_
    refine RG.op _ _ rfl rfl (o_assign (.v _) rfl) ?_
    refine RG.nil (h4_ _ ?_)
    refine WC.ret ?_
    exact Ends.r1 rfl (.tmp _ (.v _) rfl) (.v _) (rfl)
  ·
    have p1 := c1
    try simp only [CN] at p1
    have hs := long6_sz p1
    have hs1 := hs.1
    refine WC.skip (h2_ _ ?_)
    refine WC.seq fun Fh5_ h5_ => ?_
    refine WC.seq fun Fh6_ h6_ => ?_
    refine WC.region ?_
    refine RG.op _ _ rfl rfl (o_assign (.v _) rfl) ?_
    refine RG.nil (h6_ _ ?_)
    refine WC.block ?_
    refine WC.loopU [2, 3, 10, 11, 12, 13, 14, 15, 16, 17, 18, 19, 20, 21, 22] (fun (k : Nat) => [(3, I64 ((k : Nat) : Int))]) (fun (k : Nat) => []) (fun (k : Nat) => k ≤ l.length ∧ ∀ i, i < k → mayM (l.getD i z0) = true) (fun (k : Nat) => l.length - k) 0 ⟨Nat.zero_le _, fun i h => absurd h (Nat.not_lt_zero i)⟩ ?lpa7_ ?lpb8_
    case lpa7_ =>
      exact .mk' ⟨⟨rfl, .v _⟩, trivial⟩ (same_refl _ _) (rfl) (by repeat (first | exact trivial | refine And.intro (Nat.le_refl _) ?_ | refine And.intro trivial ?_ | refine And.intro (by show _ ≤ _; (first | omega | (simp only [LS] <;> omega))) ?_)) (by repeat (first | exact trivial | refine And.intro (one_ok (.own _ _ _ _ _ (Nat.le_refl _))) ?_ | refine And.intro (okp (by repeat (first | exact pu_bytes _ | exact pu_nil | exact pu_vs rfl | exact pu_map (fun _ => .v _) _ | exact pu_vals _ | refine pu_app ?_ ?_ | refine pu_cons (by exact pu_of rfl) ?_))) ?_))
    case lpb8_ =>
      rintro k hI
      have hk1 := hI.1
      have hk2 := hI.2
      refine WC.seq fun Fh9_ h9_ => ?_
      refine WC.seq fun Fh10_ h10_ => ?_
      refine WC.region ?_
      refine RG.op _ _ rfl rfl (o_move (.v _) rfl) ?_
      refine RG.op _ _ rfl rfl (o_move (.rd _ _) rfl) ?_
      refine RG.op _ _ rfl rfl (o_len_rd rfl Try.underlying22) ?_
      refine RG.op _ _ rfl rfl (o_ltI rfl rfl) ?_
      refine RG.nil (h10_ _ ?_)
      refine WC.cond _ rfl (fun c4 => ?_) (fun c4 => ?_)
      ·
        have p4 := c4
        try simp only [CN] at p4
        have hkl : k < l.length := by omega
        refine WC.skip (h9_ _ ?_)
        refine WC.seq fun Fh11_ h11_ => ?_
        refine WC.block ?_
        refine WC.seq fun Fh12_ h12_ => ?_
        refine WC.region ?_
        refine RG.op _ _ rfl rfl (o_move (.rd _ _) rfl) ?_
        refine RG.op _ _ rfl rfl (o_move (.v _) rfl) ?_
        refine RG.op _ _ rfl rfl (o_ixn_L k vc_len rfl rfl rfl Try.underlying22 (sz_of Ty.inf36) (by first | omega | exact ubyte _ | (simp only [LS] <;> omega)) (by first | omega | exact ubyte _ | (simp only [LS] <;> omega))) ?_
        refine RG.op _ _ rfl rfl (o_load_adr_L (xs := [_, _, _]) rfl Try.underlying36 rfl (sz_of Ty.inf36) rfl) ?_
        first | refine RG.op _ _ rfl rfl (o_call Ty.cal18 (may_cv _) ⟨.inl rfl, trivial⟩ (by exact pua rfl)) ?_ | refine RG.op _ _ rfl rfl (o_call Ty.cal18 (may_c _ _ _) ⟨.inl rfl, trivial⟩ (by exact pua rfl)) ?_
        refine RG.op _ _ rfl rfl (o_not rfl) ?_
        refine RG.nil (h12_ _ ?_)
        refine WC.cond _ rfl (fun c6 => ?_) (fun c6 => ?_)
        ·
          have p6 := c6
          try simp only [CN] at p6
          refine WC.seq fun Fh13_ h13_ => ?_
          refine WC.region ?_
          refine RG.op _ _ rfl rfl (o_call Ty.cal15 (puts6_c) trivial (by exact pua rfl)) ?_
          refine RG.op _ _ rfl rfl (o_assign (.v _) rfl) ?_
          refine RG.nil (h13_ _ ?_)
          refine WC.ret ?_
          exact Ends.r1 rfl (.tmp _ (.v _) rfl) (.v _) (rfl)
        ·
          have p6 := c6
          try simp only [CN] at p6
          refine WC.skip (h11_ _ ?_)
          refine WC.region ?_
          refine RG.op _ _ rfl rfl (o_move (.v _) rfl) ?_
          refine RG.op _ _ rfl rfl (o_add rfl rfl (by first | omega | exact ubyte _ | (simp only [LS] <;> omega)) (by first | omega | exact ubyte _ | (simp only [LS] <;> omega))) ?_
          refine RG.op _ _ rfl rfl (o_assign (.v _) rfl) ?_
          refine RG.nil (Exists.intro (k + 1) ⟨⟨by omega, fun i hi => by by_cases e : i = k; (subst e; rw [← gv_at hkl]; simpa using p6); exact hk2 i (by omega)⟩, by first | omega | (simp only [LS] <;> omega), ?_⟩)
          exact .mk' ⟨⟨rfl, .v _⟩, trivial⟩ (by repeat (first | with_reducible exact same_refl _ _ | with_reducible refine same_updO (by with_unfolding_all exact rfl) ?_ | with_reducible refine same_updN ?_ | with_reducible refine same_updL (by with_unfolding_all exact rfl) ?_ | with_reducible refine same_forget (by with_unfolding_all exact rfl) ?_)) (rfl) (by repeat (first | exact trivial | refine And.intro (Nat.le_refl _) ?_ | refine And.intro trivial ?_ | refine And.intro (by show _ ≤ _; (first | omega | (simp only [LS] <;> omega))) ?_)) (by repeat (first | exact trivial | refine And.intro (one_ok (.own _ _ _ _ _ (Nat.le_refl _))) ?_ | refine And.intro (okp (by repeat (first | exact pu_bytes _ | exact pu_nil | exact pu_vs rfl | exact pu_map (fun _ => .v _) _ | exact pu_vals _ | refine pu_app ?_ ?_ | refine pu_cons (by exact pu_of rfl) ?_))) ?_))
      ·
        have p4 := c4
        try simp only [CN] at p4
        refine WC.exit (h5_ _ ?_)
        refine WC.seq fun Fh14_ h14_ => ?_
        have hall : ∀ v ∈ l, mayM v = true := fun v hv => by obtain ⟨i, hi, rfl⟩ := List.getElem_of_mem hv; rw [gv_at hi]; exact hk2 i (by omega)
        refine WC.region ?_
        refine RG.op _ _ rfl rfl (o_move (.rd _ _) rfl) ?_
        refine RG.op _ _ rfl rfl (o_call Ty.cal19 (bounds_c l (by omega)) ⟨.inl rfl, trivial⟩ (by exact pua rfl)) ?_
        refine RG.op _ _ rfl rfl (o_move (.tup _) rfl) ?_
        refine RG.op _ _ rfl rfl (o_extract rfl rfl) ?_
        refine RG.op _ _ rfl rfl (o_extract rfl rfl) ?_
        refine RG.op _ _ rfl rfl (o_alloc (z_of Ty.inf36) rfl) ?_
        refine RG.op _ _ rfl rfl (o_alloc (z_of Ty.inf36) rfl) ?_
        refine RG.op _ _ rfl rfl (o_store (d := (.agg [_, _, _])) rfl rfl rfl rfl (sz_of Ty.inf36) (Nat.le_of_ble_eq_true rfl) rfl) ?_
        refine RG.op _ _ rfl rfl (o_store (d := (.agg [_, _, _])) rfl rfl rfl rfl (sz_of Ty.inf36) (Nat.le_of_ble_eq_true rfl) rfl) ?_
        refine RG.nil (h14_ _ ?_)
        refine WC.seq fun Fh15_ h15_ => ?_
        refine WC.region ?_
        refine RG.op _ _ rfl rfl (o_move (.rd _ _) rfl) ?_
        refine RG.op _ _ rfl rfl (o_call Ty.cal20 (rbounds_c l (by omega)) ⟨.inl rfl, trivial⟩ (by exact pua rfl)) ?_
        refine RG.op _ _ rfl rfl (o_move (.tup _) rfl) ?_
        refine RG.op _ _ rfl rfl (o_extract rfl rfl) ?_
        refine RG.op _ _ rfl rfl (o_extract rfl rfl) ?_
        refine RG.op _ _ rfl rfl (o_alloc (z_of Ty.inf36) rfl) ?_
        refine RG.op _ _ rfl rfl (o_alloc (z_of Ty.inf36) rfl) ?_
        refine RG.op _ _ rfl rfl (o_store (d := (.agg [_, _, _])) rfl rfl rfl rfl (sz_of Ty.inf36) (Nat.le_of_ble_eq_true rfl) rfl) ?_
        refine RG.op _ _ rfl rfl (o_store (d := (.agg [_, _, _])) rfl rfl rfl rfl (sz_of Ty.inf36) (Nat.le_of_ble_eq_true rfl) rfl) ?_
        refine RG.nil (h15_ _ ?_)
        refine WC.seq fun Fh16_ h16_ => ?_
        refine WC.region ?_
        refine RG.op _ _ rfl rfl (o_load_ptr_L (xs := [_, _, _]) rfl Try.underlying36 rfl (sz_of Ty.inf36) rfl rfl rfl rfl) ?_
        refine RG.op _ _ rfl rfl (o_load_ptr_L (xs := [_, _, _]) rfl Try.underlying36 rfl (sz_of Ty.inf36) rfl rfl rfl rfl) ?_
        refine RG.op _ _ rfl rfl (o_eqV Ty.fs36 rfl rfl) ?_
        refine RG.op _ _ rfl rfl (o_move (.v _) rfl) ?_
        refine RG.opg1 _ _ _ _ _ rfl rfl rfl rfl rfl (fun hb => o_load_ptr_L (xs := [_, _, _]) rfl Try.underlying36 rfl (sz_of Ty.inf36) rfl rfl rfl rfl) ?_
        refine RG.opg1 _ _ _ _ _ rfl rfl rfl rfl rfl (fun hb => o_load_ptr_L (xs := [_, _, _]) rfl Try.underlying36 rfl (sz_of Ty.inf36) rfl rfl rfl rfl) ?_
        refine RG.opg1 _ _ _ _ _ rfl rfl rfl rfl rfl (fun hb => o_eqV Ty.fs36 (gdT hb) (gdT hb)) ?_
        refine RG.op _ _ rfl rfl (o_and _ _ rfl rfl rfl) ?_
        refine RG.op _ _ rfl rfl (o_move (.v _) rfl) ?_
        refine RG.opg1 _ _ _ _ _ rfl rfl rfl rfl rfl (fun hb => o_call Ty.cal15 (puts6_c) trivial (by exact pua rfl)) ?_
        refine RG.op _ _ rfl rfl (o_and _ _ rfl rfl rfl) ?_
        refine RG.op _ _ rfl rfl (o_assign (.v _) rfl) ?_
        refine RG.nil (h16_ _ ?_)
        refine WC.ret ?_
        exact Ends.r1 rfl (.tmp _ (.v _) rfl) (.v _) (congrArg Bo (by rw [bndL_is hall, bndG_is hall]; simp))
theorem cbounds_r (l : List Val) (hl : okL l) : Fun Try.prog 5 [rdV l] (· = Bo true) := colbounds_c l hl.2
end Go.Proofs.Ytpdjcfhmdeeikaa
namespace Go.Proofs.Ytpdjcfhmdeeikaa
open Go.RowKit Go.DL

section
variable {P : Program} {C : Ctx} {env : Nat → D} {H : Heap} {dst : Option Nat} {ty t t' : TypeId} {pos : String} {after : Array Edge} {gu : Option (Nat × Bool)} {X Y : Operand}
theorem o_remT {a b : Int} (hx : ev env X = I64 a) (hy : ev env Y = I64 b) (h1 : b ≠ 0) : OpD P C ⟨dst, .binOp .rem t X Y t', ty, pos, after, gu⟩ env H (I64 (a.tmod b)) H :=
  o_bin (.int .i64 (a.tmod b)) hx hy (by show Op.intDiv .rem .i64 a b = _; unfold Op.intDiv; rw [if_neg h1]; rfl)
end
theorem tmod_lt {a : Int} {n : Nat} (h : 0 < n) : -(n : Int) < a.tmod n ∧ a.tmod n < n := by
  have h1 := Int.tmod_lt_of_pos a (show (0 : Int) < n by omega)
  have h2 := Int.lt_tmod_of_pos a (show (0 : Int) < n by omega)
  exact ⟨h2, h1⟩
theorem col_inj {c : UInt8} {l m : List Val} (hl : colM c l = true) (hm : colM c m = true) (h1 : ∀ v ∈ l, inI v) (h2 : ∀ v ∈ m, inI v) (s1 : szM l ≤ 109951162777) (s2 : szM m ≤ 109951162777) (hn : l.length = m.length) : (colB c l = colB c m) ↔ l = m := by
  constructor
  · intro h
    have a := (getCol_put hl h1 s1 []).2 rfl
    have b := (getCol_put hm h2 s2 []).2 rfl
    rw [List.append_nil] at a b
    rw [← a, ← b, h, hn]
  · intro h; rw [h]
theorem col_behind {c : UInt8} {l : List Val} (hl : colM c l = true) (h1 : ∀ v ∈ l, inI v) (s1 : szM l ≤ 109951162777) {r : List UInt8} (hr : 0 < r.length) : ¬ (getCol c (colB c l ++ r) l.length).2 = 0 := by
  rw [(getCol_put hl h1 s1 r).1, if_neg (List.length_pos_iff.1 hr)]; decide
theorem pay_le {c : UInt8} {m : List Val} (h1 : m.length ≤ 65536) (h2 : szT (tsM m) ≤ 109951162777) : (pay c m).length ≤ 20 * (m.length + 1) + szT (tsM m) := by
  unfold pay
  split
  · rw [bitsM_len, trM_len]; omega
  · split
    · have := putI5_len (nuM m) (by rw [nuM_len]; omega)
      rw [nuM_len] at this; omega
    · have h3 := szT_words (tsM m)
      have h4 := txB_len (W := wordsF (tsM m)) (T := tsM m) (j := (wordsF (tsM m)).length) (k := (tsM m).length) (by omega)
      rw [txB_all, tsM_len] at h4
      omega
theorem colB_le {c : UInt8} {l : List Val} (h1 : l.length ≤ 65536) (h2 : szM l ≤ 109951162777) : (colB c l).length ≤ 21 * (l.length + 1) + szM l := by
  have h5 := szT_mks l
  have h6 := mks_len l
  have h3 := pay_le (c := c) (m := mks l) (by omega) (by omega)
  have h4 := bitsM_len (nuB l)
  rw [nuB_len] at h4
  unfold colB
  rw [List.length_append]; omega
theorem col_cut {c : UInt8} {l : List Val} (hl : colM c l = true) (h1 : ∀ v ∈ l, inI v) (s1 : szM l ≤ 305500) (hll : l.length ≤ 500) {k : Nat} (hk : k < (colB c l).length) : ¬ (getCol c ((colB c l).take k) l.length).2 = 0 := by
  intro h
  obtain ⟨b1, b2, b3, b4⟩ := getCol_back h
  have hcl := colB_le (c := c) (l := l) (by omega) (by omega)
  have htx : ∀ v ∈ (getCol c ((colB c l).take k) l.length).1, v.t.length ≤ 320000 := fun v hv => by
    have := colB_text b1 v hv
    rw [b3, List.length_take] at this
    omega
  have hs := szM_le htx
  have hm : (getCol c ((colB c l).take k) l.length).1.length ≤ 500 := by omega
  have hs2 : (getCol c ((colB c l).take k) l.length).1.length * (2 * 320000 + 11) ≤ 500 * 640011 := Nat.mul_le_mul hm (by omega)
  have hb := col_behind b1 b4 (by omega) (r := (colB c l).drop k) (by rw [List.length_drop]; omega)
  have hg := (getCol_put hl h1 (by omega) []).1
  rw [List.append_nil, if_pos rfl] at hg
  have e : (((getCol c ((colB c l).take k) l.length).1.length : Nat) : Int) = l.length := b2
  rw [e, b3, List.take_append_drop] at hb
  exact hb hg
set_option maxRecDepth 20000 in
set_option maxHeartbeats 4000000 in
theorem capart_r (c : UInt8) (_ : True) (l : List Val) (hl : okL l) (m : List Val) (hm : okL m) (h : List UInt8) (hh : h.length ≤ 9223372036854775807) (ct : Int) (_ : -9223372036854775808 ≤ ct ∧ ct ≤ 9223372036854775807) : Fun Try.prog 7 [B8 c, rdV l, rdV m, rdB h, I64 ct] (· = Bo true) := by
  have hll := hl.2
  have hml := hm.2
  refine Fun.of Try.func7 rfl (Nat.le_of_ble_eq_true rfl) fun C => ?_
  refine WC.seq fun Fh1_ h1_ => ?_
  refine WC.region ?_
  refine RG.op _ _ rfl rfl (o_assign (.v _) rfl) ?_
  refine RG.nil (h1_ _ ?_)
  refine WC.seq fun Fh2_ h2_ => ?_
  refine WC.seq fun Fh3_ h3_ => ?_
  refine WC.region ?_
  refine RG.op _ _ rfl rfl (o_move (.rd _ _) rfl) ?_
  refine RG.op _ _ rfl rfl (o_call Ty.cal11 (long6_c _ (by first | omega | exact ubyte _ | (simp only [LS] <;> omega))) ⟨.inl rfl, trivial⟩ (by exact pua rfl)) ?_
  refine RG.op _ _ rfl rfl (o_move (.v _) rfl) ?_
  refine RG.opg1 _ _ _ _ _ rfl rfl rfl rfl rfl (fun hb => o_move (.rd _ _) rfl) ?_
  refine RG.opg1 _ _ _ _ _ rfl rfl rfl rfl rfl (fun hb => o_call Ty.cal11 (long6_c _ (by first | omega | exact ubyte _ | (have hb' := hb; simp only [CN] at hb'; omega) | (simp only [LS] <;> omega) | (have hb' := hb; simp only [CN] at hb'; simp only [LS]; omega))) ⟨.inl (gdT hb), trivial⟩ (by exact pua rfl)) ?_
  refine RG.op _ _ rfl rfl (o_or _ _ rfl rfl rfl) ?_
  refine RG.op _ _ rfl rfl (o_move (.v _) rfl) ?_
  refine RG.opg1 _ _ _ _ _ rfl rfl rfl rfl rfl (fun hb => o_move (.rd _ _) rfl) ?_
  refine RG.opg1 _ _ _ _ _ rfl rfl rfl rfl rfl (fun hb => o_len_rd (gdT hb) Try.underlying24) ?_
  refine RG.opg1 _ _ _ _ _ rfl rfl rfl rfl rfl (fun hb => o_gtI (gdT hb) rfl) ?_
  refine RG.op _ _ rfl rfl (o_or _ _ rfl rfl rfl) ?_
  refine RG.nil (h3_ _ ?_)
  refine WC.cond _ rfl (fun c1 => ?_) (fun c1 => ?_)
  ·
    have p1 := c1
    try simp only [CN] at p1
    refine WC.seq fun Fh4_ h4_ => ?_
    refine WC.region ?_
    refine RG.op _ _ rfl rfl (o_assign (.v _) rfl) ?_
    refine RG.nil (h4_ _ ?_)
    refine WC.ret ?_
    exact Ends.r1 rfl (.tmp _ (.v _) rfl) (.v _) (rfl)
  ·
    have p1 := c1
    try simp only [CN] at p1
    have hs := long6_sz (l := l) p1.1.1
    have ht := long6_sz (l := m) p1.1.2
    have hs1 := hs.1
    have hs2 := hs.2.1
    have ht1 := ht.1
    have ht2 := ht.2.1
    have hcl := colP_len (c := c) (l := l) (by omega)
    have hpl := cput_c c l (by omega)
    have hpm := cput_c c m (by omega)
    refine WC.skip (h2_ _ ?_)
    refine WC.seq fun Fh5_ h5_ => ?_
    refine WC.region ?_
    refine RG.op _ _ rfl rfl (o_move (.v _) rfl) ?_
    refine RG.op _ _ rfl rfl (o_move (.rd _ _) rfl) ?_
    refine RG.op _ _ rfl rfl (o_call Ty.cal12 hpl ⟨.inl rfl, .inl rfl, trivial⟩ (by exact pua rfl)) ?_
    refine RG.op _ _ rfl rfl (o_move (.tup _) rfl) ?_
    refine RG.op _ _ rfl rfl (o_extract rfl rfl) ?_
    refine RG.op _ _ rfl rfl (o_extract rfl rfl) ?_
    refine RG.op _ _ rfl rfl (o_assign (.rd _ _) rfl) ?_
    refine RG.op _ _ rfl rfl (o_assign (.v _) rfl) ?_
    refine RG.nil (h5_ _ ?_)
    refine WC.seq fun Fh6_ h6_ => ?_
    refine WC.region ?_
    refine RG.op _ _ rfl rfl (o_move (.v _) rfl) ?_
    refine RG.op _ _ rfl rfl (o_move (.rd _ _) rfl) ?_
    refine RG.op _ _ rfl rfl (o_call Ty.cal12 hpm ⟨.inl rfl, .inl rfl, trivial⟩ (by exact pua rfl)) ?_
    refine RG.op _ _ rfl rfl (o_move (.tup _) rfl) ?_
    refine RG.op _ _ rfl rfl (o_extract rfl rfl) ?_
    refine RG.op _ _ rfl rfl (o_extract rfl rfl) ?_
    refine RG.op _ _ rfl rfl (o_assign (.rd _ _) rfl) ?_
    refine RG.op _ _ rfl rfl (o_assign (.v _) rfl) ?_
    refine RG.nil (h6_ _ ?_)
    refine WC.seq fun Fh7_ h7_ => ?_
    refine WC.seq fun Fh8_ h8_ => ?_
    refine WC.region ?_
    refine RG.op _ _ rfl rfl (o_move (.v _) rfl) ?_
    refine RG.op _ _ rfl rfl (o_neI rfl rfl) ?_
    refine RG.nil (h8_ _ ?_)
    refine WC.cond _ rfl (fun c5 => ?_) (fun c5 => ?_)
    ·
      have p5 := c5
      try simp only [CN] at p5
      refine WC.seq fun Fh9_ h9_ => ?_
      refine WC.region ?_
      refine RG.op _ _ rfl rfl (o_move (.rd _ _) rfl) ?_
      refine RG.op _ _ rfl rfl (o_len_rd rfl Try.underlying24) ?_
      refine RG.op _ _ rfl rfl (o_eqI rfl rfl) ?_
      refine RG.op _ _ rfl rfl (o_move (.v _) rfl) ?_
      refine RG.opg1 _ _ _ _ _ rfl rfl rfl rfl rfl (fun hb => o_call Ty.cal15 (puts6_c) trivial (by exact pua rfl)) ?_
      refine RG.op _ _ rfl rfl (o_and _ _ rfl rfl rfl) ?_
      refine RG.op _ _ rfl rfl (o_assign (.v _) rfl) ?_
      refine RG.nil (h9_ _ ?_)
      refine WC.ret ?_
      exact Ends.r1 rfl (.tmp _ (.v _) rfl) (.v _) (congrArg Bo (by have e : colM c l = false := (by rw [Bool.eq_false_iff]; exact fun h => p5 (putX.2 h)); unfold colP; rw [e]; rfl))
    ·
      have p5 := c5
      try simp only [CN] at p5
      have hcol : colM c l = true := putX.1 p5
      have hae : (colP c l).getD [] = colB c l := by rw [colP_ok hcol]; rfl
      have hal : ((colP c l).getD []).length = (colB c l).length := by rw [hae]
      have hgr := cget_c c ((colP c l).getD [] ++ h) l.length (by rw [List.length_append]; omega)
      refine WC.skip (h7_ _ ?_)
      refine WC.seq fun Fh10_ h10_ => ?_
      refine WC.seq fun Fh11_ h11_ => ?_
      refine WC.drawn1 (by kernel_rfl) ?_
      refine PG.op _ rfl rfl rfl (by rintro _ rfl; exact o_move (.v _) rfl) ?_
      refine PG.op _ rfl rfl rfl (by rintro _ rfl; exact o_eqI rfl rfl) ?_
      refine PG.op _ rfl rfl rfl (by rintro _ rfl; exact o_move (.v _) rfl) ?_
      refine PG.opg1 _ _ _ _ _ rfl rfl rfl rfl rfl rfl (fun hb => (by rintro _ rfl; exact o_move (.rd _ _) rfl)) ?_
      refine PG.opg1 _ _ _ _ _ rfl rfl rfl rfl rfl rfl (fun hb => (by rintro _ rfl; exact o_len_rd (gdT hb) Try.underlying22)) ?_
      refine PG.opg1 _ _ _ _ _ rfl rfl rfl rfl rfl rfl (fun hb => (by rintro _ rfl; exact o_move (.rd _ _) rfl)) ?_
      refine PG.opg1 _ _ _ _ _ rfl rfl rfl rfl rfl rfl (fun hb => (by rintro _ rfl; exact o_len_rd (gdT hb) Try.underlying22)) ?_
      refine PG.opg1 _ _ _ _ _ rfl rfl rfl rfl rfl rfl (fun hb => (by rintro _ rfl; exact o_eqI (gdT hb) (gdT hb))) ?_
      refine PG.op _ rfl rfl rfl (by rintro _ rfl; exact o_and _ _ rfl rfl rfl) ?_
      refine PG.op _ rfl rfl rfl (by rintro _ rfl; exact o_move (.v _) rfl) ?_
      refine PG.opg1 _ _ _ _ _ rfl rfl rfl rfl rfl rfl (fun hb => (by rintro _ rfl; exact o_move (.rd _ _) rfl)) ?_
      refine PG.opg1 _ _ _ _ _ rfl rfl rfl rfl rfl rfl (fun hb => (by rintro _ rfl; exact o_str_rd (gdT hb) Try.underlying24 Try.underlying5 Try.underlying9)) ?_
      refine PG.opg1 _ _ _ _ _ rfl rfl rfl rfl rfl rfl (fun hb => (by rintro _ rfl; exact o_move (.rd _ _) rfl)) ?_
      refine PG.opg1 _ _ _ _ _ rfl rfl rfl rfl rfl rfl (fun hb => (by rintro _ rfl; exact o_str_rd (gdT hb) Try.underlying24 Try.underlying5 Try.underlying9)) ?_
      refine PG.opg1 _ _ _ _ _ rfl rfl rfl rfl rfl rfl (fun hb => (by rintro _ rfl; exact o_eqS' (gdT hb) (gdT hb))) ?_
      refine PG.opg1 _ _ _ _ _ rfl rfl rfl rfl rfl rfl (fun hb => (by rintro _ rfl; exact o_move (.rd _ _) rfl)) ?_
      refine PG.opg1 _ _ _ _ _ rfl rfl rfl rfl rfl rfl (fun hb => (by rintro _ rfl; exact o_move (.rd _ _) rfl)) ?_
      refine PG.opg1 _ _ _ _ _ rfl rfl rfl rfl rfl rfl (fun hb => (by rintro _ rfl; exact o_call Ty.cal14 (same_c _ _ (by first | omega | exact ubyte _ | (have hb' := hb; simp only [CN] at hb'; omega) | (simp only [LS] <;> omega) | (have hb' := hb; simp only [CN] at hb'; simp only [LS]; omega)) (by first | omega | exact ubyte _ | (have hb' := hb; simp only [CN] at hb'; omega) | (simp only [LS] <;> omega) | (have hb' := hb; simp only [CN] at hb'; simp only [LS]; omega))) ⟨.inl (gdT hb), .inl (gdT hb), trivial⟩ (by exact pua rfl))) ?_
      refine PG.opg1 _ _ _ _ _ rfl rfl rfl rfl rfl rfl (fun hb => (by rintro _ rfl; exact o_neb (gdT hb) (gdT hb) Try.underlying4)) ?_
      refine PG.op _ rfl rfl rfl (by rintro _ rfl; exact o_and _ _ rfl rfl rfl) ?_
      refine PG.nil ⟨by kernel_rfl, rfl, (h11_ _ ?_)⟩
      refine WC.cond _ rfl (fun c7 => ?_) (fun c7 => ?_)
      ·
        have p7 := c7
        try simp only [CN] at p7
        exfalso; have hcm : colM c m = true := (putX.1 p7.1.1); have hme : (colP c m).getD [] = colB c m := (by rw [colP_ok hcm]; rfl); rw [hae, hme] at p7; refine p7.2 ?_; rw [Bool.eq_iff_iff, beq_iff_eq, decide_eq_true_eq]; exact col_inj hcol hcm hl.inI hm.inI (by omega) (by omega) (by omega)
      ·
        have p7 := c7
        try simp only [CN] at p7
        refine WC.skip (h10_ _ ?_)
        refine WC.seq fun Fh12_ h12_ => ?_
        refine WC.seq fun Fh13_ h13_ => ?_
        refine WC.region ?_
        refine RG.op _ _ rfl rfl (o_move (.rd _ _) rfl) ?_
        refine RG.op _ _ rfl rfl (o_len_rd rfl Try.underlying24) ?_
        refine RG.op _ _ rfl rfl (o_gtI rfl rfl) ?_
        refine RG.nil (h13_ _ ?_)
        refine WC.cond _ rfl (fun c9 => ?_) (fun c9 => ?_)
        ·
          have p9 := c9
          try simp only [CN] at p9
          have hG := col_behind hcol hl.inI (by omega) (r := h) (by omega)
          rw [← hae] at hG
          refine WC.seq fun Fh14_ h14_ => ?_
          refine WC.region ?_
          refine RG.op _ _ rfl rfl (o_move (.v _) rfl) ?_
          refine RG.op _ _ rfl rfl (o_litV (cs := []) 0 Try.underlying24 Ty.inf5 rfl rfl rfl rfl rfl rfl) ?_
          refine RG.op _ _ rfl rfl (o_move (.rd _ _) rfl) ?_
          refine RG.op _ _ rfl rfl (o_appT (Elem.of Try.underlying24 Ty.inf5 rfl (by decide)) rfl rfl rfl (by first | omega | exact ubyte _ | (simp only [LS] <;> omega)) (by first | omega | exact ubyte _ | (simp only [LS] <;> omega)) (by repeat (first | exact bytesD_one _ | exact one_nil | exact one_map (fun _ => rfl) _ | exact one_vals _ | refine one_app ?_ ?_ | refine one_cons rfl ?_)) (by first | omega | exact ubyte _ | (simp only [LS] <;> omega)) (by first | omega | exact ubyte _ | (simp only [LS] <;> omega))) ?_
          refine RG.op _ _ rfl rfl (o_move (.rd _ _) rfl) ?_
          refine RG.op _ _ rfl rfl (o_appT (Elem.of Try.underlying24 Ty.inf5 rfl (by decide)) rfl rfl rfl (by first | omega | exact ubyte _ | (simp only [LS] <;> omega)) (by first | omega | exact ubyte _ | (simp only [LS] <;> omega)) (by repeat (first | exact bytesD_one _ | exact one_nil | exact one_map (fun _ => rfl) _ | exact one_vals _ | refine one_app ?_ ?_ | refine one_cons rfl ?_)) (by first | omega | exact ubyte _ | (simp only [LS] <;> omega)) (by first | omega | exact ubyte _ | (simp only [LS] <;> omega))) ?_
          refine RG.op _ _ rfl rfl (o_move (.rd _ _) rfl) ?_
          refine RG.op _ _ rfl rfl (o_len_rd rfl Try.underlying22) ?_
          refine RG.op _ _ rfl rfl (OpD.frzL 0 _ [(80, rdB ((colP c l).getD [] ++ h))] rfl (by repeat (first | exact pu_bytes _ | exact pu_nil | exact pu_vs rfl | exact pu_map (fun _ => .v _) _ | exact pu_vals _ | refine pu_app ?_ ?_ | refine pu_cons (by exact pu_of rfl) ?_)) ⟨.rowE rfl (by simp) (by simp [bytesD_app]), trivial⟩ (o_call Ty.cal16 hgr ⟨.inl rfl, .inl rfl, .inl rfl, trivial⟩ (by exact pua rfl))) ?_
          refine RG.op _ _ rfl rfl (o_move (.tup _) rfl) ?_
          refine RG.op _ _ rfl rfl (o_extract rfl rfl) ?_
          refine RG.op _ _ rfl rfl (o_extract rfl rfl) ?_
          refine RG.op _ _ rfl rfl (o_assign (.rd _ _) rfl) ?_
          refine RG.op _ _ rfl rfl (o_assign (.v _) rfl) ?_
          refine RG.nil (h14_ _ ?_)
          refine WC.seq fun Fh15_ h15_ => ?_
          refine WC.region ?_
          refine RG.op _ _ rfl rfl (o_move (.v _) rfl) ?_
          refine RG.op _ _ rfl rfl (o_eqI rfl rfl) ?_
          refine RG.nil (h15_ _ ?_)
          refine WC.cond _ rfl (fun c11 => ?_) (fun c11 => ?_)
          ·
            have p11 := c11
            try simp only [CN] at p11
            exact absurd (show (getCol c ((colP c l).getD [] ++ h) l.length).2 = 0 by omega) hG
          ·
            have p11 := c11
            try simp only [CN] at p11
            refine WC.skip (h12_ _ ?_)
            refine WC.seq fun Fh16_ h16_ => ?_
            refine WC.seq fun Fh17_ h17_ => ?_
            refine WC.region ?_
            refine RG.op _ _ rfl rfl (o_move (.rd _ _) rfl) ?_
            refine RG.op _ _ rfl rfl (o_len_rd rfl Try.underlying24) ?_
            refine RG.op _ _ rfl rfl (o_eqI rfl rfl) ?_
            refine RG.nil (h17_ _ ?_)
            refine WC.cond _ rfl (fun c13 => ?_) (fun c13 => ?_)
            ·
              have p13 := c13
              try simp only [CN] at p13
              refine WC.seq fun Fh18_ h18_ => ?_
              refine WC.region ?_
              refine RG.op _ _ rfl rfl (o_call Ty.cal15 (puts6_c) trivial (by exact pua rfl)) ?_
              refine RG.op _ _ rfl rfl (o_assign (.v _) rfl) ?_
              refine RG.nil (h18_ _ ?_)
              refine WC.ret ?_
              exact Ends.r1 rfl (.tmp _ (.v _) rfl) (.v _) (rfl)
            ·
              have p13 := c13
              try simp only [CN] at p13
              have hpos : 0 < ((colP c l).getD []).length := by omega
              have htm := tmod_lt (a := ct) hpos
              refine WC.skip (h16_ _ ?_)
              refine WC.seq fun Fh19_ h19_ => ?_
              refine WC.region ?_
              refine RG.op _ _ rfl rfl (o_move (.v _) rfl) ?_
              refine RG.op _ _ rfl rfl (o_move (.rd _ _) rfl) ?_
              refine RG.op _ _ rfl rfl (o_len_rd rfl Try.underlying24) ?_
              refine RG.op _ _ rfl rfl (o_remT rfl rfl (by omega)) ?_
              refine RG.op _ _ rfl rfl (o_assign (.v _) rfl) ?_
              refine RG.nil (h19_ _ ?_)
              refine WC.joinU [17, 96, 97, 98, 99, 100, 101] (fun (k : Nat) => [(17, I64 ((k : Nat) : Int))]) (fun (k : Nat) => []) (fun (k : Nat) => k < ((colP c l).getD []).length) ?_ ?_
              ·
                refine WC.seq fun Fh20_ h20_ => ?_
                refine WC.region ?_
                refine RG.op _ _ rfl rfl (o_move (.v _) rfl) ?_
                refine RG.op _ _ rfl rfl (o_ltI rfl rfl) ?_
                refine RG.nil (h20_ _ ?_)
                refine WC.cond _ rfl (fun c16 => ?_) (fun c16 => ?_)
                ·
                  have p16 := c16
                  try simp only [CN] at p16
                  refine WC.region ?_
                  refine RG.op _ _ rfl rfl (o_move (.v _) rfl) ?_
                  refine RG.op _ _ rfl rfl (o_move (.rd _ _) rfl) ?_
                  refine RG.op _ _ rfl rfl (o_len_rd rfl Try.underlying24) ?_
                  refine RG.op _ _ rfl rfl (o_add rfl rfl (by first | omega | exact ubyte _ | (simp only [LS] <;> omega)) (by first | omega | exact ubyte _ | (simp only [LS] <;> omega))) ?_
                  refine RG.op _ _ rfl rfl (o_assign (.v _) rfl) ?_
                  refine RG.nil (Exists.intro ((ct.tmod ((colP c l).getD []).length + ((colP c l).getD []).length).toNat) ⟨by first | omega | (simp only [LS] <;> omega), ?_⟩)
                  exact .mk' ⟨⟨congrArg I64 (by omega), .v _⟩, trivial⟩ (by repeat (first | with_reducible exact same_refl _ _ | with_reducible refine same_updO (by with_unfolding_all exact rfl) ?_ | with_reducible refine same_updN ?_ | with_reducible refine same_updL (by with_unfolding_all exact rfl) ?_ | with_reducible refine same_forget (by with_unfolding_all exact rfl) ?_)) (rfl) (by repeat (first | exact trivial | refine And.intro (Nat.le_refl _) ?_ | refine And.intro trivial ?_ | refine And.intro (by show _ ≤ _; (first | omega | (simp only [LS] <;> omega))) ?_)) (by repeat (first | exact trivial | refine And.intro (one_ok (.own _ _ _ _ _ (Nat.le_refl _))) ?_ | refine And.intro (okp (by repeat (first | exact pu_bytes _ | exact pu_nil | exact pu_vs rfl | exact pu_map (fun _ => .v _) _ | exact pu_vals _ | refine pu_app ?_ ?_ | refine pu_cons (by exact pu_of rfl) ?_))) ?_))
                ·
                  have p16 := c16
                  try simp only [CN] at p16
                  refine WC.skip (Exists.intro ((ct.tmod ((colP c l).getD []).length).toNat) ⟨by first | omega | (simp only [LS] <;> omega), ?_⟩)
                  exact .mk' ⟨⟨congrArg I64 (by omega), .v _⟩, trivial⟩ (by repeat (first | with_reducible exact same_refl _ _ | with_reducible refine same_updO (by with_unfolding_all exact rfl) ?_ | with_reducible refine same_updN ?_ | with_reducible refine same_updL (by with_unfolding_all exact rfl) ?_ | with_reducible refine same_forget (by with_unfolding_all exact rfl) ?_)) (rfl) (by repeat (first | exact trivial | refine And.intro (Nat.le_refl _) ?_ | refine And.intro trivial ?_ | refine And.intro (by show _ ≤ _; (first | omega | (simp only [LS] <;> omega))) ?_)) (by repeat (first | exact trivial | refine And.intro (one_ok (.own _ _ _ _ _ (Nat.le_refl _))) ?_ | refine And.intro (okp (by repeat (first | exact pu_bytes _ | exact pu_nil | exact pu_vs rfl | exact pu_map (fun _ => .v _) _ | exact pu_vals _ | refine pu_app ?_ ?_ | refine pu_cons (by exact pu_of rfl) ?_))) ?_))
              ·
                rintro k hI
                have hC := col_cut hcol hl.inI (by omega) (by omega) (k := k) (by rw [← hal]; exact hI)
                rw [← hae] at hC
                have hgk := cget_c c (((colP c l).getD []).take k) l.length (by rw [List.length_take]; omega)
                refine WC.seq fun Fh21_ h21_ => ?_
                refine WC.region ?_
                refine RG.op _ _ rfl rfl (o_move (.v _) rfl) ?_
                refine RG.op _ _ rfl rfl (o_move (.rd _ _) rfl) ?_
                refine RG.op _ _ rfl rfl (o_move (.v _) rfl) ?_
                refine RG.op _ _ rfl rfl (o_takeM k rfl rfl Try.underlying24 (sz_of Ty.inf5) (by first | omega | exact ubyte _ | (simp only [LS] <;> omega)) (by first | omega | exact ubyte _ | (simp only [LS] <;> omega))) ?_
                refine RG.op _ _ rfl rfl (o_move (.rd _ _) rfl) ?_
                refine RG.op _ _ rfl rfl (o_len_rd rfl Try.underlying22) ?_
                refine RG.op _ _ rfl rfl (o_call Ty.cal16 hgk ⟨.inl rfl, .inl rfl, .inl rfl, trivial⟩ (by exact pua rfl)) ?_
                refine RG.op _ _ rfl rfl (o_move (.tup _) rfl) ?_
                refine RG.op _ _ rfl rfl (o_extract rfl rfl) ?_
                refine RG.op _ _ rfl rfl (o_extract rfl rfl) ?_
                refine RG.op _ _ rfl rfl (o_assign (.rd _ _) rfl) ?_
                refine RG.op _ _ rfl rfl (o_assign (.v _) rfl) ?_
                refine RG.nil (h21_ _ ?_)
                refine WC.seq fun Fh22_ h22_ => ?_
                refine WC.region ?_
                refine RG.op _ _ rfl rfl (o_move (.v _) rfl) ?_
                refine RG.op _ _ rfl rfl (o_neI rfl rfl) ?_
                refine RG.op _ _ rfl rfl (o_move (.v _) rfl) ?_
                refine RG.opg1 _ _ _ _ _ rfl rfl rfl rfl rfl (fun hb => o_call Ty.cal15 (puts6_c) trivial (by exact pua rfl)) ?_
                refine RG.op _ _ rfl rfl (o_and _ _ rfl rfl rfl) ?_
                refine RG.op _ _ rfl rfl (o_assign (.v _) rfl) ?_
                refine RG.nil (h22_ _ ?_)
                refine WC.ret ?_
                exact Ends.r1 rfl (.tmp _ (.v _) rfl) (.v _) (congrArg Bo (by rw [decide_eq_true (show ((getCol c (((colP c l).getD []).take k) l.length).2 : Int) ≠ 0 by omega)]; rfl))
        ·
          have p9 := c9
          try simp only [CN] at p9
          refine WC.skip (h12_ _ ?_)
          refine WC.seq fun Fh23_ h23_ => ?_
          refine WC.seq fun Fh24_ h24_ => ?_
          refine WC.region ?_
          refine RG.op _ _ rfl rfl (o_move (.rd _ _) rfl) ?_
          refine RG.op _ _ rfl rfl (o_len_rd rfl Try.underlying24) ?_
          refine RG.op _ _ rfl rfl (o_eqI rfl rfl) ?_
          refine RG.nil (h24_ _ ?_)
          refine WC.cond _ rfl (fun c13 => ?_) (fun c13 => ?_)
          ·
            have p13 := c13
            try simp only [CN] at p13
            refine WC.seq fun Fh25_ h25_ => ?_
            refine WC.region ?_
            refine RG.op _ _ rfl rfl (o_call Ty.cal15 (puts6_c) trivial (by exact pua rfl)) ?_
            refine RG.op _ _ rfl rfl (o_assign (.v _) rfl) ?_
            refine RG.nil (h25_ _ ?_)
            refine WC.ret ?_
            exact Ends.r1 rfl (.tmp _ (.v _) rfl) (.v _) (rfl)
          ·
            have p13 := c13
            try simp only [CN] at p13
            have hpos : 0 < ((colP c l).getD []).length := by omega
            have htm := tmod_lt (a := ct) hpos
            refine WC.skip (h23_ _ ?_)
            refine WC.seq fun Fh26_ h26_ => ?_
            refine WC.region ?_
            refine RG.op _ _ rfl rfl (o_move (.v _) rfl) ?_
            refine RG.op _ _ rfl rfl (o_move (.rd _ _) rfl) ?_
            refine RG.op _ _ rfl rfl (o_len_rd rfl Try.underlying24) ?_
            refine RG.op _ _ rfl rfl (o_remT rfl rfl (by omega)) ?_
            refine RG.op _ _ rfl rfl (o_assign (.v _) rfl) ?_
            refine RG.nil (h26_ _ ?_)
            refine WC.joinU [17, 96, 97, 98, 99, 100, 101] (fun (k : Nat) => [(17, I64 ((k : Nat) : Int))]) (fun (k : Nat) => []) (fun (k : Nat) => k < ((colP c l).getD []).length) ?_ ?_
            ·
              refine WC.seq fun Fh27_ h27_ => ?_
              refine WC.region ?_
              refine RG.op _ _ rfl rfl (o_move (.v _) rfl) ?_
              refine RG.op _ _ rfl rfl (o_ltI rfl rfl) ?_
              refine RG.nil (h27_ _ ?_)
              refine WC.cond _ rfl (fun c16 => ?_) (fun c16 => ?_)
              ·
                have p16 := c16
                try simp only [CN] at p16
                refine WC.region ?_
                refine RG.op _ _ rfl rfl (o_move (.v _) rfl) ?_
                refine RG.op _ _ rfl rfl (o_move (.rd _ _) rfl) ?_
                refine RG.op _ _ rfl rfl (o_len_rd rfl Try.underlying24) ?_
                refine RG.op _ _ rfl rfl (o_add rfl rfl (by first | omega | exact ubyte _ | (simp only [LS] <;> omega)) (by first | omega | exact ubyte _ | (simp only [LS] <;> omega))) ?_
                refine RG.op _ _ rfl rfl (o_assign (.v _) rfl) ?_
                refine RG.nil (Exists.intro ((ct.tmod ((colP c l).getD []).length + ((colP c l).getD []).length).toNat) ⟨by first | omega | (simp only [LS] <;> omega), ?_⟩)
                exact .mk' ⟨⟨congrArg I64 (by omega), .v _⟩, trivial⟩ (by repeat (first | with_reducible exact same_refl _ _ | with_reducible refine same_updO (by with_unfolding_all exact rfl) ?_ | with_reducible refine same_updN ?_ | with_reducible refine same_updL (by with_unfolding_all exact rfl) ?_ | with_reducible refine same_forget (by with_unfolding_all exact rfl) ?_)) (rfl) (by repeat (first | exact trivial | refine And.intro (Nat.le_refl _) ?_ | refine And.intro trivial ?_ | refine And.intro (by show _ ≤ _; (first | omega | (simp only [LS] <;> omega))) ?_)) (by repeat (first | exact trivial | refine And.intro (one_ok (.own _ _ _ _ _ (Nat.le_refl _))) ?_ | refine And.intro (okp (by repeat (first | exact pu_bytes _ | exact pu_nil | exact pu_vs rfl | exact pu_map (fun _ => .v _) _ | exact pu_vals _ | refine pu_app ?_ ?_ | refine pu_cons (by exact pu_of rfl) ?_))) ?_))
              ·
                have p16 := c16
                try simp only [CN] at p16
                refine WC.skip (Exists.intro ((ct.tmod ((colP c l).getD []).length).toNat) ⟨by first | omega | (simp only [LS] <;> omega), ?_⟩)
                exact .mk' ⟨⟨congrArg I64 (by omega), .v _⟩, trivial⟩ (by repeat (first | with_reducible exact same_refl _ _ | with_reducible refine same_updO (by with_unfolding_all exact rfl) ?_ | with_reducible refine same_updN ?_ | with_reducible refine same_updL (by with_unfolding_all exact rfl) ?_ | with_reducible refine same_forget (by with_unfolding_all exact rfl) ?_)) (rfl) (by repeat (first | exact trivial | refine And.intro (Nat.le_refl _) ?_ | refine And.intro trivial ?_ | refine And.intro (by show _ ≤ _; (first | omega | (simp only [LS] <;> omega))) ?_)) (by repeat (first | exact trivial | refine And.intro (one_ok (.own _ _ _ _ _ (Nat.le_refl _))) ?_ | refine And.intro (okp (by repeat (first | exact pu_bytes _ | exact pu_nil | exact pu_vs rfl | exact pu_map (fun _ => .v _) _ | exact pu_vals _ | refine pu_app ?_ ?_ | refine pu_cons (by exact pu_of rfl) ?_))) ?_))
            ·
              rintro k hI
              have hC := col_cut hcol hl.inI (by omega) (by omega) (k := k) (by rw [← hal]; exact hI)
              rw [← hae] at hC
              have hgk := cget_c c (((colP c l).getD []).take k) l.length (by rw [List.length_take]; omega)
              refine WC.seq fun Fh28_ h28_ => ?_
              refine WC.region ?_
              refine RG.op _ _ rfl rfl (o_move (.v _) rfl) ?_
              refine RG.op _ _ rfl rfl (o_move (.rd _ _) rfl) ?_
              refine RG.op _ _ rfl rfl (o_move (.v _) rfl) ?_
              refine RG.op _ _ rfl rfl (o_takeM k rfl rfl Try.underlying24 (sz_of Ty.inf5) (by first | omega | exact ubyte _ | (simp only [LS] <;> omega)) (by first | omega | exact ubyte _ | (simp only [LS] <;> omega))) ?_
              refine RG.op _ _ rfl rfl (o_move (.rd _ _) rfl) ?_
              refine RG.op _ _ rfl rfl (o_len_rd rfl Try.underlying22) ?_
              refine RG.op _ _ rfl rfl (o_call Ty.cal16 hgk ⟨.inl rfl, .inl rfl, .inl rfl, trivial⟩ (by exact pua rfl)) ?_
              refine RG.op _ _ rfl rfl (o_move (.tup _) rfl) ?_
              refine RG.op _ _ rfl rfl (o_extract rfl rfl) ?_
              refine RG.op _ _ rfl rfl (o_extract rfl rfl) ?_
              refine RG.op _ _ rfl rfl (o_assign (.rd _ _) rfl) ?_
              refine RG.op _ _ rfl rfl (o_assign (.v _) rfl) ?_
              refine RG.nil (h28_ _ ?_)
              refine WC.seq fun Fh29_ h29_ => ?_
              refine WC.region ?_
              refine RG.op _ _ rfl rfl (o_move (.v _) rfl) ?_
              refine RG.op _ _ rfl rfl (o_neI rfl rfl) ?_
              refine RG.op _ _ rfl rfl (o_move (.v _) rfl) ?_
              refine RG.opg1 _ _ _ _ _ rfl rfl rfl rfl rfl (fun hb => o_call Ty.cal15 (puts6_c) trivial (by exact pua rfl)) ?_
              refine RG.op _ _ rfl rfl (o_and _ _ rfl rfl rfl) ?_
              refine RG.op _ _ rfl rfl (o_assign (.v _) rfl) ?_
              refine RG.nil (h29_ _ ?_)
              refine WC.ret ?_
              exact Ends.r1 rfl (.tmp _ (.v _) rfl) (.v _) (congrArg Bo (by rw [decide_eq_true (show ((getCol c (((colP c l).getD []).take k) l.length).2 : Int) ≠ 0 by omega)]; rfl))
end Go.Proofs.Ytpdjcfhmdeeikaa
namespace Go.Proofs.Ytpdjcfhmdeeikaa
open Go.RowKit Go.DL

def kn6 : List (UInt8 × List UInt8 × Int × Int) := [(3, [0, 2, 1, 97, 1, 97, 0, 1], 2, 21), (3, [0, 2, 1, 97, 1, 98, 0, 0], 2, 21), (3, [0, 2, 1, 97, 1, 98, 1, 0], 2, 21), (3, [0, 1, 1, 97, 0, 1], 2, 21), (3, [0, 1, 1, 97, 0, 0], 2, 0), (3, [3, 0], 2, 0), (3, [3], 2, 20), (3, [3, 1, 0], 2, 21), (1, [0, 5], 3, 0), (1, [0, 8], 3, 21), (1, [8, 0], 3, 21), (1, [0], 3, 20), (1, [0, 5, 0], 3, 21), (2, [2, 1, 20, 1, 0], 3, 0), (2, [2, 1, 20], 3, 20), (2, [], 0, 0), (2, [], 1, 20), (3, [0], 0, 0), (0, [], 0, 1), (4, [], 0, 1), (2, [], -1, 1), (2, [], 65537, 1)]
def kc6 (p : UInt8 × List UInt8 × Int × Int) : List D := [B8 p.1, S p.2.1, I64 p.2.2.1, I64 p.2.2.2]
theorem kc6_len (p : UInt8 × List UInt8 × Int × Int) : (kc6 p).length = 4 := rfl
theorem kn6_len : ∀ p ∈ kn6, p.2.1.length ≤ 10 := by decide +kernel
theorem kn6_ok : ∀ p ∈ kn6, ((getCol p.1 p.2.1 p.2.2.1).2 : Int) = p.2.2.2 ∧ (p.2.2.2 = 0 → ((getCol p.1 p.2.1 p.2.2.1).1.length : Int) = p.2.2.1) ∧ (¬ p.2.2.2 = 0 → (getCol p.1 p.2.1 p.2.2.1).1.length = 0) := by decide +kernel
theorem rep_z_mks (n : Nat) : mks (List.replicate n z0) = [] := by
  unfold mks
  rw [List.filter_eq_nil_iff]
  intro v hv
  rw [(List.mem_replicate.1 hv).2]; decide
theorem rep_z_sz (n : Nat) : szM (List.replicate n z0) = n * 11 := by
  induction n with
  | zero => rfl
  | succ n ih =>
    have e : szM (List.replicate (n + 1) z0) = 2 * 0 + 11 + szM (List.replicate n z0) := by simp [szM, List.replicate_succ, z0]
    rw [e, ih]; omega
theorem rep_z_col (n : Nat) (h : n ≤ 65536) : colM 2 (List.replicate n z0) = true := by
  refine colM_iff.2 ⟨rfl, by rw [List.length_replicate]; exact h, fun v hv => ?_, fun v hv => ?_⟩
  · rw [(List.mem_replicate.1 hv).2]; rfl
  · rw [(List.mem_replicate.1 hv).2]; exact .inl rfl
theorem rep_z_put (n : Nat) : (colB 2 (List.replicate n z0)).length = (n + 7) / 8 := by
  unfold colB
  rw [rep_z_mks, List.length_append, bitsM_len, nuB_len, List.length_replicate]; rfl
theorem putA : colP 1 [⟨2, 1, []⟩] = none := by decide +kernel
theorem putA_c : Fun Try.prog 12 [B8 1, rdV [⟨2, 1, []⟩]] (· = .tup [rdB [], I64 1]) := by
  have h := cput_c 1 [⟨2, 1, []⟩] (by decide)
  rw [putA] at h
  exact h
theorem putB_c (n : Nat) (h1 : 65536 < n) (h2 : n ≤ 70000) : Fun Try.prog 12 [B8 2, rdV (List.replicate n z0)] (· = .tup [rdB [], I64 1]) := by
  have h := cput_c 2 (List.replicate n z0) (by rw [rep_z_sz]; omega)
  have e : resA (colP 2 (List.replicate n z0)) = .tup [rdB [], I64 1] := by
    rw [← resA_no]; rfl
    rintro ⟨_, h3, _⟩
    rw [List.length_replicate] at h3; omega
  rw [e] at h
  exact h
theorem putC_c (n : Nat) (h1 : n ≤ 65536) : Fun Try.prog 12 [B8 2, rdV (List.replicate n z0)] (· = .tup [rdB (colB 2 (List.replicate n z0)), I64 0]) := by
  have h := cput_c 2 (List.replicate n z0) (by rw [rep_z_sz]; omega)
  rw [colP_ok (rep_z_col n h1)] at h
  exact h
abbrev exB : List Val := [⟨2, 3, []⟩, z0, ⟨2, 1, []⟩, ⟨2, 2, []⟩]
theorem exB_l : foldB lt0 exB = ⟨2, 1, []⟩ := by decide +kernel
theorem exB_g : foldB gt0 exB = ⟨2, 3, []⟩ := by decide +kernel
theorem boundsX_c : Fun Try.prog 19 [rdV exB] (· = .tup [VD ⟨2, 1, []⟩, VD ⟨2, 3, []⟩]) := by
  have h := bounds_c exB (by decide)
  rw [exB_l, exB_g] at h
  exact h
set_option maxRecDepth 20000 in
set_option maxHeartbeats 4000000 in
theorem cknown_c : Fun Try.prog 10 [] (· = Bo true) := by
  have hn0 : ∃ n, n = 65537 := Exists.intro 65537 (Eq.refl _)
  obtain ⟨n, hn⟩ := hn0
  have hm0 : ∃ m, m = 65536 := Exists.intro 65536 (Eq.refl _)
  obtain ⟨m, hm⟩ := hm0
  have hlm := rep_z_put m
  refine Fun.of Try.func10 rfl (Nat.le_of_ble_eq_true rfl) fun C => ?_
  refine WC.seq fun Fh1_ h1_ => ?_
  refine WC.region ?_
  refine RG.op _ _ rfl rfl (o_assign (.v _) rfl) ?_
  refine RG.nil (h1_ _ ?_)
  refine WC.seq fun Fh2_ h2_ => ?_
  refine WC.region ?_
  refine RG.op _ _ rfl rfl (o_build (cs := [(B8 3), (S ([0, 2, 1, 97, 1, 97, 0, 1] : List UInt8)), (.v _), (.v _)]) Try.underlying46 Ty.inf46 (Ty.pl46 Try.underlying46) rfl) ?_
  refine RG.op _ _ rfl rfl (o_build (cs := [(B8 3), (S ([0, 2, 1, 97, 1, 98, 0, 0] : List UInt8)), (.v _), (.v _)]) Try.underlying46 Ty.inf46 (Ty.pl46 Try.underlying46) rfl) ?_
  refine RG.op _ _ rfl rfl (o_build (cs := [(B8 3), (S ([0, 2, 1, 97, 1, 98, 1, 0] : List UInt8)), (.v _), (.v _)]) Try.underlying46 Ty.inf46 (Ty.pl46 Try.underlying46) rfl) ?_
  refine RG.op _ _ rfl rfl (o_build (cs := [(B8 3), (S ([0, 1, 1, 97, 0, 1] : List UInt8)), (.v _), (.v _)]) Try.underlying46 Ty.inf46 (Ty.pl46 Try.underlying46) rfl) ?_
  refine RG.op _ _ rfl rfl (o_build (cs := [(B8 3), (S ([0, 1, 1, 97, 0, 0] : List UInt8)), (.v _), (.v _)]) Try.underlying46 Ty.inf46 (Ty.pl46 Try.underlying46) rfl) ?_
  refine RG.op _ _ rfl rfl (o_build (cs := [(B8 3), (S ([3, 0] : List UInt8)), (.v _), (.v _)]) Try.underlying46 Ty.inf46 (Ty.pl46 Try.underlying46) rfl) ?_
  refine RG.op _ _ rfl rfl (o_build (cs := [(B8 3), (S ([3] : List UInt8)), (.v _), (.v _)]) Try.underlying46 Ty.inf46 (Ty.pl46 Try.underlying46) rfl) ?_
  refine RG.op _ _ rfl rfl (o_build (cs := [(B8 3), (S ([3, 1, 0] : List UInt8)), (.v _), (.v _)]) Try.underlying46 Ty.inf46 (Ty.pl46 Try.underlying46) rfl) ?_
  refine RG.op _ _ rfl rfl (o_build (cs := [(B8 1), (S ([0, 5] : List UInt8)), (.v _), (.v _)]) Try.underlying46 Ty.inf46 (Ty.pl46 Try.underlying46) rfl) ?_
  refine RG.op _ _ rfl rfl (o_build (cs := [(B8 1), (S ([0, 8] : List UInt8)), (.v _), (.v _)]) Try.underlying46 Ty.inf46 (Ty.pl46 Try.underlying46) rfl) ?_
  refine RG.op _ _ rfl rfl (o_build (cs := [(B8 1), (S ([8, 0] : List UInt8)), (.v _), (.v _)]) Try.underlying46 Ty.inf46 (Ty.pl46 Try.underlying46) rfl) ?_
  refine RG.op _ _ rfl rfl (o_build (cs := [(B8 1), (S ([0] : List UInt8)), (.v _), (.v _)]) Try.underlying46 Ty.inf46 (Ty.pl46 Try.underlying46) rfl) ?_
  refine RG.op _ _ rfl rfl (o_build (cs := [(B8 1), (S ([0, 5, 0] : List UInt8)), (.v _), (.v _)]) Try.underlying46 Ty.inf46 (Ty.pl46 Try.underlying46) rfl) ?_
  refine RG.op _ _ rfl rfl (o_build (cs := [(B8 2), (S ([2, 1, 20, 1, 0] : List UInt8)), (.v _), (.v _)]) Try.underlying46 Ty.inf46 (Ty.pl46 Try.underlying46) rfl) ?_
  refine RG.op _ _ rfl rfl (o_build (cs := [(B8 2), (S ([2, 1, 20] : List UInt8)), (.v _), (.v _)]) Try.underlying46 Ty.inf46 (Ty.pl46 Try.underlying46) rfl) ?_
  refine RG.op _ _ rfl rfl (o_build (cs := [(B8 2), (S ([] : List UInt8)), (.v _), (.v _)]) Try.underlying46 Ty.inf46 (Ty.pl46 Try.underlying46) rfl) ?_
  refine RG.op _ _ rfl rfl (o_build (cs := [(B8 2), (S ([] : List UInt8)), (.v _), (.v _)]) Try.underlying46 Ty.inf46 (Ty.pl46 Try.underlying46) rfl) ?_
  refine RG.op _ _ rfl rfl (o_build (cs := [(B8 3), (S ([0] : List UInt8)), (.v _), (.v _)]) Try.underlying46 Ty.inf46 (Ty.pl46 Try.underlying46) rfl) ?_
  refine RG.op _ _ rfl rfl (o_build (cs := [(B8 0), (S ([] : List UInt8)), (.v _), (.v _)]) Try.underlying46 Ty.inf46 (Ty.pl46 Try.underlying46) rfl) ?_
  refine RG.op _ _ rfl rfl (o_build (cs := [(B8 4), (S ([] : List UInt8)), (.v _), (.v _)]) Try.underlying46 Ty.inf46 (Ty.pl46 Try.underlying46) rfl) ?_
  refine RG.op _ _ rfl rfl (o_build (cs := [(B8 2), (S ([] : List UInt8)), (.v _), (.v _)]) Try.underlying46 Ty.inf46 (Ty.pl46 Try.underlying46) rfl) ?_
  refine RG.op _ _ rfl rfl (o_build (cs := [(B8 2), (S ([] : List UInt8)), (.v _), (.v _)]) Try.underlying46 Ty.inf46 (Ty.pl46 Try.underlying46) rfl) ?_
  refine RG.op _ _ rfl rfl (o_litP (cs := [_, _, _, _, _, _, _, _, _, _, _, _, _, _, _, _, _, _, _, _, _, _, _, _, _, _, _, _, _, _, _, _, _, _, _, _, _, _, _, _, _, _, _, _, _, _, _, _, _, _, _, _, _, _, _, _, _, _, _, _, _, _, _, _, _, _, _, _, _, _, _, _, _, _, _, _, _, _, _, _, _, _, _, _, _, _, _, _]) Try.underlying47 Ty.inf46 rfl rfl rfl rfl (by repeat (first | exact pu_bytes _ | exact pu_nil | exact pu_vs rfl | exact pu_map (fun _ => .v _) _ | exact pu_vals _ | refine pu_app ?_ ?_ | refine pu_cons (by exact pu_of rfl) ?_))) ?_
  refine RG.op _ _ rfl rfl (o_assign (.rd _ _) rfl) ?_
  refine RG.nil (h2_ _ ?_)
  refine WC.seq fun Fh3_ h3_ => ?_
  refine WC.seq fun Fh4_ h4_ => ?_
  refine WC.region ?_
  refine RG.op _ _ rfl rfl (o_assign (.v _) rfl) ?_
  refine RG.nil (h4_ _ ?_)
  refine WC.block ?_
  refine WC.loopU [0, 2, 3, 4, 36, 37, 38, 39, 40, 41, 42, 43, 44, 45, 46, 47, 48, 49, 50, 51, 52, 53, 54, 55, 56, 57, 58, 59, 60, 61, 62, 63, 64, 65, 66, 67, 68, 69, 70, 71, 72, 73, 74, 75, 76, 77, 78, 79, 80, 81, 82, 83, 84, 85, 86, 87, 88, 89, 90, 91] (fun (k : Nat) => [(2, I64 ((k : Nat) : Int))]) (fun (k : Nat) => []) (fun (k : Nat) => k ≤ 22) (fun (k : Nat) => 22 - k) 0 (by first | omega | exact ubyte _ | (simp only [LS] <;> omega)) ?lpa5_ ?lpb6_
  case lpa5_ =>
    exact .mk' ⟨⟨rfl, .v _⟩, trivial⟩ (same_refl _ _) (rfl) (by repeat (first | exact trivial | refine And.intro (Nat.le_refl _) ?_ | refine And.intro trivial ?_ | refine And.intro (by show _ ≤ _; (first | omega | (simp only [LS] <;> omega))) ?_)) (by repeat (first | exact trivial | refine And.intro (one_ok (.own _ _ _ _ _ (Nat.le_refl _))) ?_ | refine And.intro (okp (by repeat (first | exact pu_bytes _ | exact pu_nil | exact pu_vs rfl | exact pu_map (fun _ => .v _) _ | exact pu_vals _ | refine pu_app ?_ ?_ | refine pu_cons (by exact pu_of rfl) ?_))) ?_))
  case lpb6_ =>
    rintro k hI
    refine WC.seq fun Fh7_ h7_ => ?_
    refine WC.seq fun Fh8_ h8_ => ?_
    refine WC.region ?_
    refine RG.op _ _ rfl rfl (o_move (.v _) rfl) ?_
    refine RG.op _ _ rfl rfl (o_move (.rd _ _) rfl) ?_
    refine RG.op _ _ rfl rfl (o_len_rd rfl Try.underlying47) ?_
    refine RG.op _ _ rfl rfl (o_ltI rfl rfl) ?_
    refine RG.nil (h8_ _ ?_)
    refine WC.cond _ rfl (fun c3 => ?_) (fun c3 => ?_)
    ·
      have p3 := c3
      try simp only [CN] at p3
      have hk : k < kn6.length := by show k < 22; omega
      have hq := kn6_len _ (List.getElem_mem hk)
      have ho := kn6_ok _ (List.getElem_mem hk)
      refine WC.skip (h7_ _ ?_)
      refine WC.seq fun Fh9_ h9_ => ?_
      refine WC.block ?_
      refine WC.seq fun Fh10_ h10_ => ?_
      refine WC.drawn1 (by kernel_rfl) ?_
      refine PG.op _ rfl rfl rfl (by rintro _ rfl; exact o_move (.rd _ _) rfl) ?_
      refine PG.op _ rfl rfl rfl (by rintro _ rfl; exact o_move (.v _) rfl) ?_
      refine PG.op _ rfl rfl rfl (by rintro _ rfl; exact o_ixn_L (l := kn6) (f := kc6) k kc6_len rfl rfl rfl Try.underlying47 (sz_of Ty.inf46) rfl hk) ?_
      refine PG.op _ rfl rfl rfl (by rintro _ rfl; exact o_fld_adr rfl Try.underlying46 rfl (sz_of Ty.inf5) (by decide)) ?_
      refine PG.op _ rfl rfl rfl (by rintro _ rfl; exact o_load_adr rfl Try.underlying5 rfl rfl) ?_
      refine PG.op _ rfl rfl rfl (by rintro _ rfl; exact o_move (.rd _ _) rfl) ?_
      refine PG.op _ rfl rfl rfl (by rintro _ rfl; exact o_move (.v _) rfl) ?_
      refine PG.op _ rfl rfl rfl (by rintro _ rfl; exact o_ixn_L (l := kn6) (f := kc6) k kc6_len rfl rfl rfl Try.underlying47 (sz_of Ty.inf46) rfl hk) ?_
      refine PG.op _ rfl rfl rfl (by rintro _ rfl; exact o_fld_adr rfl Try.underlying46 rfl (sz_of Ty.inf9) (by decide)) ?_
      refine PG.op _ rfl rfl rfl (by rintro _ rfl; exact o_load_adr rfl Try.underlying9 rfl rfl) ?_
      refine PG.op _ rfl rfl rfl (by rintro _ rfl; exact o_bytes rfl Try.underlying9 Try.underlying24 Try.underlying5) ?_
      refine PG.op _ rfl rfl rfl (by rintro _ rfl; exact o_move (.rd _ _) rfl) ?_
      refine PG.op _ rfl rfl rfl (by rintro _ rfl; exact o_move (.v _) rfl) ?_
      refine PG.op _ rfl rfl rfl (by rintro _ rfl; exact o_ixn_L (l := kn6) (f := kc6) k kc6_len rfl rfl rfl Try.underlying47 (sz_of Ty.inf46) rfl hk) ?_
      refine PG.op _ rfl rfl rfl (by rintro _ rfl; exact o_fld_adr rfl Try.underlying46 rfl (sz_of Ty.inf3) (by decide)) ?_
      refine PG.op _ rfl rfl rfl (by rintro _ rfl; exact o_load_adr rfl Try.underlying3 rfl rfl) ?_
      refine PG.op _ rfl rfl rfl (by rintro _ rfl; exact (by exact o_call (ds := [B8 (kn6[k]'hk).1, rdB (kn6[k]'hk).2.1, I64 (kn6[k]'hk).2.2.1]) Ty.cal16 (cget_c _ _ _ (by omega)) ⟨.inl rfl, .inl rfl, .inl rfl, trivial⟩ (by exact pua rfl))) ?_
      refine PG.op _ rfl rfl rfl (by rintro _ rfl; exact o_move (.tup _) rfl) ?_
      refine PG.op _ rfl rfl rfl (by rintro _ rfl; exact o_extract rfl rfl) ?_
      refine PG.op _ rfl rfl rfl (by rintro _ rfl; exact o_extract rfl rfl) ?_
      refine PG.op _ rfl rfl rfl (by rintro _ rfl; exact o_assign (.rd _ _) rfl) ?_
      refine PG.op _ rfl rfl rfl (by rintro _ rfl; exact o_assign (.v _) rfl) ?_
      refine PG.nil ⟨by kernel_rfl, rfl, (h10_ _ ?_)⟩
      refine WC.seq fun Fh11_ h11_ => ?_
      refine WC.region ?_
      refine RG.op _ _ rfl rfl (o_move (.v _) rfl) ?_
      refine RG.op _ _ rfl rfl (o_move (.rd _ _) rfl) ?_
      refine RG.op _ _ rfl rfl (o_move (.v _) rfl) ?_
      refine RG.op _ _ rfl rfl (o_ixn_L (l := kn6) (f := kc6) k kc6_len rfl rfl rfl Try.underlying47 (sz_of Ty.inf46) rfl hk) ?_
      refine RG.op _ _ rfl rfl (o_fld_adr rfl Try.underlying46 rfl (sz_of Ty.inf25) (by decide)) ?_
      refine RG.op _ _ rfl rfl (o_load_adr rfl Try.underlying25 rfl rfl) ?_
      refine RG.op _ _ rfl rfl (o_neI rfl rfl) ?_
      refine RG.op _ _ rfl rfl (o_move (.v _) rfl) ?_
      refine RG.opg1 _ _ _ _ _ rfl rfl rfl rfl rfl (fun hb => o_move (.v _) rfl) ?_
      refine RG.opg1 _ _ _ _ _ rfl rfl rfl rfl rfl (fun hb => o_neI (gdT hb) rfl) ?_
      refine RG.opg1 _ _ _ _ _ rfl rfl rfl rfl rfl (fun hb => o_move (.v _) (gdT hb)) ?_
      refine RG.opg2 _ _ _ _ _ _ rfl rfl rfl rfl rfl (fun hb => o_move (.rd _ _) rfl) ?_
      refine RG.opg2 _ _ _ _ _ _ rfl rfl rfl rfl rfl (fun hb => o_len_rd (gdT hb) Try.underlying22) ?_
      refine RG.opg2 _ _ _ _ _ _ rfl rfl rfl rfl rfl (fun hb => o_neI (gdT hb) rfl) ?_
      refine RG.opg1 _ _ _ _ _ rfl rfl rfl rfl rfl (fun hb => o_and _ _ (gdT hb) (gdS hb) rfl) ?_
      refine RG.op _ _ rfl rfl (o_or _ _ rfl rfl rfl) ?_
      refine RG.op _ _ rfl rfl (o_move (.v _) rfl) ?_
      refine RG.opg1 _ _ _ _ _ rfl rfl rfl rfl rfl (fun hb => o_move (.v _) rfl) ?_
      refine RG.opg1 _ _ _ _ _ rfl rfl rfl rfl rfl (fun hb => o_eqI (gdT hb) rfl) ?_
      refine RG.opg1 _ _ _ _ _ rfl rfl rfl rfl rfl (fun hb => o_move (.v _) (gdT hb)) ?_
      refine RG.opg2 _ _ _ _ _ _ rfl rfl rfl rfl rfl (fun hb => o_move (.rd _ _) rfl) ?_
      refine RG.opg2 _ _ _ _ _ _ rfl rfl rfl rfl rfl (fun hb => o_len_rd (gdT hb) Try.underlying22) ?_
      refine RG.opg2 _ _ _ _ _ _ rfl rfl rfl rfl rfl (fun hb => o_move (.rd _ _) rfl) ?_
      refine RG.opg2 _ _ _ _ _ _ rfl rfl rfl rfl rfl (fun hb => o_move (.v _) rfl) ?_
      refine RG.opg2 _ _ _ _ _ _ rfl rfl rfl rfl rfl (fun hb => (by exact o_ixn_LZ (l := kn6) (f := kc6) (0, [], 0, 0) k kc6_len rfl (gdT hb) (gdT hb) Try.underlying47 (sz_of Ty.inf46) rfl hk)) ?_
      refine RG.opg2 _ _ _ _ _ _ rfl rfl rfl rfl rfl (fun hb => o_fld_adr (gdT hb) Try.underlying46 rfl (sz_of Ty.inf3) (by decide)) ?_
      refine RG.opg2 _ _ _ _ _ _ rfl rfl rfl rfl rfl (fun hb => o_load_adr (gdT hb) Try.underlying3 rfl rfl) ?_
      refine RG.opg2 _ _ _ _ _ _ rfl rfl rfl rfl rfl (fun hb => o_neI (gdT hb) (gdT hb)) ?_
      refine RG.opg1 _ _ _ _ _ rfl rfl rfl rfl rfl (fun hb => o_and _ _ (gdT hb) (gdS hb) rfl) ?_
      refine RG.op _ _ rfl rfl (o_or _ _ rfl rfl rfl) ?_
      refine RG.nil (h11_ _ ?_)
      refine WC.cond _ rfl (fun c6 => ?_) (fun c6 => ?_)
      ·
        have p6 := c6
        try simp only [CN] at p6
        have hgd : kn6.getD k (0, [], 0, 0) = kn6[k]'hk := by rw [List.getD_eq_getElem?_getD, List.getElem?_eq_getElem hk]; rfl
        rw [hgd] at p6
        exfalso; rcases p6 with (h | ⟨h1, h2⟩) | ⟨h1, h2⟩; exact h ho.1; (have h5 := ho.2.2 (fun h6 => h1 (by rw [ho.1]; exact h6)); omega); exact h2 (ho.2.1 (by rw [← ho.1]; exact h1))
      ·
        have p6 := c6
        try simp only [CN] at p6
        refine WC.skip (h9_ _ ?_)
        refine WC.region ?_
        refine RG.op _ _ rfl rfl (o_move (.v _) rfl) ?_
        refine RG.op _ _ rfl rfl (o_add rfl rfl (by first | omega | exact ubyte _ | (simp only [LS] <;> omega)) (by first | omega | exact ubyte _ | (simp only [LS] <;> omega))) ?_
        refine RG.op _ _ rfl rfl (o_assign (.v _) rfl) ?_
        refine RG.nil (Exists.intro (k + 1) ⟨by first | omega | (simp only [LS] <;> omega), by first | omega | (simp only [LS] <;> omega), ?_⟩)
        exact .mk' ⟨⟨rfl, .v _⟩, trivial⟩ (by repeat (first | with_reducible exact same_refl _ _ | with_reducible refine same_updO (by with_unfolding_all exact rfl) ?_ | with_reducible refine same_updN ?_ | with_reducible refine same_updL (by with_unfolding_all exact rfl) ?_ | with_reducible refine same_forget (by with_unfolding_all exact rfl) ?_)) (rfl) (by repeat (first | exact trivial | refine And.intro (Nat.le_refl _) ?_ | refine And.intro trivial ?_ | refine And.intro (by show _ ≤ _; (first | omega | (simp only [LS] <;> omega))) ?_)) (by repeat (first | exact trivial | refine And.intro (one_ok (.own _ _ _ _ _ (Nat.le_refl _))) ?_ | refine And.intro (okp (by repeat (first | exact pu_bytes _ | exact pu_nil | exact pu_vs rfl | exact pu_map (fun _ => .v _) _ | exact pu_vals _ | refine pu_app ?_ ?_ | refine pu_cons (by exact pu_of rfl) ?_))) ?_))
    ·
      have p3 := c3
      try simp only [CN] at p3
      refine WC.exit (h3_ _ ?_)
      refine WC.seq fun Fh12_ h12_ => ?_
      refine WC.region ?_
      refine RG.op _ _ rfl rfl (o_build (cs := [(B8 2), (.v _), S []]) Try.underlying36 Ty.inf36 (Ty.pl36 Try.underlying36) rfl) ?_
      refine RG.op _ _ rfl rfl (o_litP (cs := [_, _, _]) Try.underlying22 Ty.inf36 rfl rfl rfl rfl (by repeat (first | exact pu_bytes _ | exact pu_nil | exact pu_vs rfl | exact pu_map (fun _ => .v _) _ | exact pu_vals _ | refine pu_app ?_ ?_ | refine pu_cons (by exact pu_of rfl) ?_))) ?_
      refine RG.op _ _ rfl rfl (o_call (ds := [B8 1, rdV [⟨2, 1, []⟩]]) Ty.cal12 putA_c ⟨.inl rfl, .inl rfl, trivial⟩ (by exact pua rfl)) ?_
      refine RG.op _ _ rfl rfl (o_move (.tup _) rfl) ?_
      refine RG.op _ _ rfl rfl (o_extract rfl rfl) ?_
      refine RG.op _ _ rfl rfl (o_extract rfl rfl) ?_
      refine RG.op _ _ rfl rfl (o_assign (.rd _ _) rfl) ?_
      refine RG.op _ _ rfl rfl (o_assign (.v _) rfl) ?_
      refine RG.nil (h12_ _ ?_)
      refine WC.seq fun Fh13_ h13_ => ?_
      refine WC.region ?_
      refine RG.op _ _ rfl rfl (o_makeT n n n rfl rfl Try.underlying22 Ty.inf36 rfl rfl (by omega) (by omega) (by omega) (by omega) (by omega)) ?_
      refine RG.op _ _ rfl rfl (OpD.frzL 0 _ [(99, rdV (List.replicate n z0))] rfl (by repeat (first | exact pu_bytes _ | exact pu_nil | exact pu_vs rfl | exact pu_map (fun _ => .v _) _ | exact pu_vals _ | refine pu_app ?_ ?_ | refine pu_cons (by exact pu_of rfl) ?_)) ⟨.rowE rfl (List.length_replicate).symm (zs_vals rfl n), trivial⟩ (o_call (ds := [B8 2, rdV (List.replicate n z0)]) Ty.cal12 (putB_c n (by omega) (by omega)) ⟨.inl rfl, .inl rfl, trivial⟩ (by exact pua rfl))) ?_
      refine RG.op _ _ rfl rfl (o_move (.tup _) rfl) ?_
      refine RG.op _ _ rfl rfl (o_extract rfl rfl) ?_
      refine RG.op _ _ rfl rfl (o_extract rfl rfl) ?_
      refine RG.op _ _ rfl rfl (o_assign (.rd _ _) rfl) ?_
      refine RG.op _ _ rfl rfl (o_assign (.v _) rfl) ?_
      refine RG.nil (h13_ _ ?_)
      refine WC.seq fun Fh14_ h14_ => ?_
      refine WC.region ?_
      refine RG.op _ _ rfl rfl (o_makeT m m m rfl rfl Try.underlying22 Ty.inf36 rfl rfl (by omega) (by omega) (by omega) (by omega) (by omega)) ?_
      refine RG.op _ _ rfl rfl (OpD.frzL 1 _ [(104, rdV (List.replicate m z0))] rfl (by repeat (first | exact pu_bytes _ | exact pu_nil | exact pu_vs rfl | exact pu_map (fun _ => .v _) _ | exact pu_vals _ | refine pu_app ?_ ?_ | refine pu_cons (by exact pu_of rfl) ?_)) ⟨.rowE rfl (List.length_replicate).symm (zs_vals rfl m), trivial⟩ (o_call (ds := [B8 2, rdV (List.replicate m z0)]) Ty.cal12 (putC_c m (by omega)) ⟨.inl rfl, .inl rfl, trivial⟩ (by exact pua rfl))) ?_
      refine RG.op _ _ rfl rfl (o_move (.tup _) rfl) ?_
      refine RG.op _ _ rfl rfl (o_extract rfl rfl) ?_
      refine RG.op _ _ rfl rfl (o_extract rfl rfl) ?_
      refine RG.op _ _ rfl rfl (o_assign (.rd _ _) rfl) ?_
      refine RG.op _ _ rfl rfl (o_assign (.v _) rfl) ?_
      refine RG.nil (h14_ _ ?_)
      refine WC.seq fun Fh15_ h15_ => ?_
      refine WC.region ?_
      refine RG.op _ _ rfl rfl (o_build (cs := [(B8 2), (.v _), S []]) Try.underlying36 Ty.inf36 (Ty.pl36 Try.underlying36) rfl) ?_
      refine RG.op _ _ rfl rfl (o_build (cs := [B8 0, I64 0, S []]) Try.underlying36 Ty.inf36 (Ty.pl36 Try.underlying36) rfl) ?_
      refine RG.op _ _ rfl rfl (o_build (cs := [(B8 2), (.v _), S []]) Try.underlying36 Ty.inf36 (Ty.pl36 Try.underlying36) rfl) ?_
      refine RG.op _ _ rfl rfl (o_build (cs := [(B8 2), (.v _), S []]) Try.underlying36 Ty.inf36 (Ty.pl36 Try.underlying36) rfl) ?_
      refine RG.op _ _ rfl rfl (o_litP (cs := [_, _, _, _, _, _, _, _, _, _, _, _]) Try.underlying22 Ty.inf36 rfl rfl rfl rfl (by repeat (first | exact pu_bytes _ | exact pu_nil | exact pu_vs rfl | exact pu_map (fun _ => .v _) _ | exact pu_vals _ | refine pu_app ?_ ?_ | refine pu_cons (by exact pu_of rfl) ?_))) ?_
      refine RG.op _ _ rfl rfl (o_call (ds := [rdV exB]) Ty.cal19 boundsX_c ⟨.inl rfl, trivial⟩ (by exact pua rfl)) ?_
      refine RG.op _ _ rfl rfl (o_move (.tup _) rfl) ?_
      refine RG.op _ _ rfl rfl (o_extract rfl rfl) ?_
      refine RG.op _ _ rfl rfl (o_extract rfl rfl) ?_
      refine RG.op _ _ rfl rfl (o_alloc (z_of Ty.inf36) rfl) ?_
      refine RG.op _ _ rfl rfl (o_alloc (z_of Ty.inf36) rfl) ?_
      refine RG.op _ _ rfl rfl (o_store (d := (.agg [_, _, _])) rfl rfl rfl rfl (sz_of Ty.inf36) (Nat.le_of_ble_eq_true rfl) rfl) ?_
      refine RG.op _ _ rfl rfl (o_store (d := (.agg [_, _, _])) rfl rfl rfl rfl (sz_of Ty.inf36) (Nat.le_of_ble_eq_true rfl) rfl) ?_
      refine RG.nil (h15_ _ ?_)
      refine WC.seq fun Fh16_ h16_ => ?_
      refine WC.region ?_
      refine RG.op _ _ rfl rfl (o_move (.v _) rfl) ?_
      refine RG.op _ _ rfl rfl (o_eqI rfl rfl) ?_
      refine RG.op _ _ rfl rfl (o_move (.v _) rfl) ?_
      refine RG.opg1 _ _ _ _ _ rfl rfl rfl rfl rfl (fun hb => o_move (.v _) rfl) ?_
      refine RG.opg1 _ _ _ _ _ rfl rfl rfl rfl rfl (fun hb => o_eqI (gdT hb) rfl) ?_
      refine RG.op _ _ rfl rfl (o_and _ _ rfl rfl rfl) ?_
      refine RG.op _ _ rfl rfl (o_move (.v _) rfl) ?_
      refine RG.opg1 _ _ _ _ _ rfl rfl rfl rfl rfl (fun hb => o_move (.rd _ _) rfl) ?_
      refine RG.opg1 _ _ _ _ _ rfl rfl rfl rfl rfl (fun hb => o_len_rd (gdT hb) Try.underlying24) ?_
      refine RG.opg1 _ _ _ _ _ rfl rfl rfl rfl rfl (fun hb => o_eqI (gdT hb) rfl) ?_
      refine RG.op _ _ rfl rfl (o_and _ _ rfl rfl rfl) ?_
      refine RG.op _ _ rfl rfl (o_move (.v _) rfl) ?_
      refine RG.opg1 _ _ _ _ _ rfl rfl rfl rfl rfl (fun hb => o_move (.v _) rfl) ?_
      refine RG.opg1 _ _ _ _ _ rfl rfl rfl rfl rfl (fun hb => o_eqI (gdT hb) rfl) ?_
      refine RG.op _ _ rfl rfl (o_and _ _ rfl rfl rfl) ?_
      refine RG.op _ _ rfl rfl (o_move (.v _) rfl) ?_
      refine RG.opg1 _ _ _ _ _ rfl rfl rfl rfl rfl (fun hb => o_fld_ptr rfl Try.underlying36 rfl (sz_of Ty.inf2) (by decide)) ?_
      refine RG.opg1 _ _ _ _ _ rfl rfl rfl rfl rfl (fun hb => o_load_ptr (gdT hb) Try.underlying2 rfl rfl rfl rfl) ?_
      refine RG.opg1 _ _ _ _ _ rfl rfl rfl rfl rfl (fun hb => o_eqI (gdT hb) rfl) ?_
      refine RG.op _ _ rfl rfl (o_and _ _ rfl rfl rfl) ?_
      refine RG.op _ _ rfl rfl (o_move (.v _) rfl) ?_
      refine RG.opg1 _ _ _ _ _ rfl rfl rfl rfl rfl (fun hb => o_fld_ptr rfl Try.underlying36 rfl (sz_of Ty.inf2) (by decide)) ?_
      refine RG.opg1 _ _ _ _ _ rfl rfl rfl rfl rfl (fun hb => o_load_ptr (gdT hb) Try.underlying2 rfl rfl rfl rfl) ?_
      refine RG.opg1 _ _ _ _ _ rfl rfl rfl rfl rfl (fun hb => o_eqI (gdT hb) rfl) ?_
      refine RG.op _ _ rfl rfl (o_and _ _ rfl rfl rfl) ?_
      refine RG.op _ _ rfl rfl (o_move (.v _) rfl) ?_
      refine RG.opg1 _ _ _ _ _ rfl rfl rfl rfl rfl (fun hb => o_call Ty.cal15 (puts6_c) trivial (by exact pua rfl)) ?_
      refine RG.op _ _ rfl rfl (o_and _ _ rfl rfl rfl) ?_
      refine RG.op _ _ rfl rfl (o_assign (.v _) rfl) ?_
      refine RG.nil (h16_ _ ?_)
      refine WC.ret ?_
      exact Ends.r1 rfl (.tmp _ (.v _) rfl) (.v _) (congrArg Bo (by have e : (((colB 2 (List.replicate m z0)).length : Nat) : Int) = 8192 := (by rw [hlm]; omega); rw [e]; rfl))
end Go.Proofs.Ytpdjcfhmdeeikaa
