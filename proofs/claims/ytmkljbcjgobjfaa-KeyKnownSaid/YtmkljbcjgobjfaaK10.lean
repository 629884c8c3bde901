/-
  Layer key: the document's Parse. No condition.
-/
import Derived.Test.YtmkljbcjgobjfaaK9
set_option linter.unusedSimpArgs false
set_option linter.unusedVariables false
namespace Go.Proofs.Ytmkljbcjgobjfaa
open Go.RowKit Go.DL

theorem step_ok {b : List UInt8} {l : List Val} {i : Nat} {v : Val} {n : Nat} (hp : parseM b = addL l (parseM (b.drop i))) (hlt : i < b.length) (h : oneP (b.drop i) = .ok (v, n)) (hn : 1 ≤ n) : parseM b = addL (l ++ [v]) (parseM (b.drop (i + n))) := by
  rw [hp, parse_ok (by rw [List.length_drop]; omega) h hn, addL_addL, List.drop_drop]
theorem step_err {b : List UInt8} {l : List Val} {i : Nat} {e : Int} (hp : parseM b = addL l (parseM (b.drop i))) (hlt : i < b.length) (h : oneP (b.drop i) = .error e) : parseM b = .error e := by
  rw [hp, parse_err (by rw [List.length_drop]; omega) h]; rfl
section
variable {b : List UInt8} {i : Nat}
theorem one1 (hlt : i < b.length) (hc : b[i] = 1) : oneP (b.drop i) = .ok (⟨0, 0, []⟩, 1) := by
  rw [one_yes hlt (by rw [hc]; decide), hc]; rfl
theorem one2a (hlt : i < b.length) (hc : b[i] = 2) (h : i + 1 = b.length) : oneP (b.drop i) = .error 20 := by
  rw [one_yes hlt (by rw [hc]; decide), hc]
  show boolM _ = _
  unfold boolM; rw [if_pos (by rw [List.length_drop]; omega)]
theorem one2b (h1 : i + 1 < b.length) (hc : b[i] = 2) (hg : 1 < b[i + 1].toNat) : oneP (b.drop i) = .error 21 := by
  rw [one_yes (by omega) (by rw [hc]; decide), hc]
  show boolM _ = _
  unfold boolM; rw [if_neg (by rw [List.length_drop]; omega), getD_drop 1 h1, if_pos hg]
theorem one2c (h1 : i + 1 < b.length) (hc : b[i] = 2) (hg : b[i + 1].toNat ≤ 1) : oneP (b.drop i) = .ok (⟨1, (b[i + 1].toNat : Int), []⟩, 2) := by
  rw [one_yes (by omega) (by rw [hc]; decide), hc]
  show boolM _ = _
  unfold boolM; rw [if_neg (by rw [List.length_drop]; omega), getD_drop 1 h1, if_neg (by omega)]
theorem one3a (hlt : i < b.length) (hc : b[i] = 3) (h : b.length < i + 9) : oneP (b.drop i) = .error 20 := by
  rw [one_yes hlt (by rw [hc]; decide), hc]
  show intM _ = _
  unfold intM; rw [if_pos (by rw [List.length_drop]; omega)]
theorem one3b (hlt : i < b.length) (hc : b[i] = 3) (h : i + 9 ≤ b.length) : oneP (b.drop i) = .ok (⟨2, unI (numU ((b.drop (i + 1)).take 8)), []⟩, 9) := by
  rw [one_yes hlt (by rw [hc]; decide), hc]
  show intM _ = _
  unfold intM; rw [if_neg (by rw [List.length_drop]; omega), List.drop_drop]
theorem one4 (hlt : i < b.length) (hc : b[i] = 4) : oneP (b.drop i) = (textM (b.drop (i + 1))).map fun p => (⟨3, 0, p.1⟩, p.2 + 1) := by
  rw [one_yes hlt (by rw [hc]; decide), hc]
  show textR _ = _
  unfold textR; rw [List.drop_drop]
theorem one4a (hlt : i < b.length) (hc : b[i] = 4) (h : tE (textM (b.drop (i + 1))) ≠ 0) : oneP (b.drop i) = .error (tE (textM (b.drop (i + 1)))) := by
  rw [one4 hlt hc]
  cases h2 : textM (b.drop (i + 1)) with
  | error e => rfl
  | ok p => rw [h2] at h; exact absurd rfl h
theorem one4b (hlt : i < b.length) (hc : b[i] = 4) (h : tE (textM (b.drop (i + 1))) = 0) : oneP (b.drop i) = .ok (⟨3, 0, tS (textM (b.drop (i + 1)))⟩, tN (textM (b.drop (i + 1))) + 1) := by
  rw [one4 hlt hc]
  cases h2 : textM (b.drop (i + 1)) with
  | error e => rw [h2] at h; have := text_err _ _ h2; have h : e = 0 := h; omega
  | ok p => rfl
theorem one5 (hlt : i < b.length) (h1 : b[i] ≠ 1) (h2 : b[i] ≠ 2) (h3 : b[i] ≠ 3) (h4 : b[i] ≠ 4) : oneP (b.drop i) = .error 21 :=
  one_not hlt (by simp [lookB, h1, h2, h3, h4])
theorem tN_le (w : List UInt8) : tN (textM w) ≤ w.length := by
  cases h2 : textM w with
  | error e => exact Nat.zero_le _
  | ok p => exact (text_bound _ _ _ h2).1
end
end Go.Proofs.Ytmkljbcjgobjfaa
