/-
  Numbers one behind the other: a part of a number's bytes is too short; a greater number has no fewer bytes; cuts of a slice. Plain lemmas; each says its own condition.
-/
import Derived.Test.YtfpegfngogkmmaaApp
namespace Go.Proofs.Ytfpegfngogkmmaa
open Go.RowKit

theorem part_short (u : Nat) : ∀ (pre : List Nat) (acc : Nat), u * 128 ^ pre.length < 18446744073709551616 → pre.length < 10 →
    getF ((pre ++ enc u).take (pre.length + (enc u).length - 1)) pre.length acc (10 - pre.length) = (0, 0, 20) := by
  induction u using Nat.strongRecOn with
  | _ u ih =>
    intro pre acc hu hk
    by_cases h : u < 128
    · rw [enc_small h]
      exact getF_end _ _ _ hk (by simp)
    · have e := enc_big (u := u) (by omega)
      have hp := enc_pos (u / 128)
      have hk9 : pre.length < 9 := by
        rcases Nat.lt_or_ge pre.length 9 with h9 | h9
        · exact h9
        · have : pre.length = 9 := by omega
          rw [this] at hu
          have : 128 * 128 ^ 9 ≤ u * 128 ^ 9 := Nat.mul_le_mul_right _ (by omega)
          omega
      have hl : (pre ++ [u % 128 + 128]).length = pre.length + 1 := by simp
      have hs : (pre ++ enc u).take (pre.length + (enc u).length - 1) = ((pre ++ [u % 128 + 128]) ++ enc (u / 128)).take ((pre ++ [u % 128 + 128]).length + (enc (u / 128)).length - 1) := by
        rw [e, hl]
        simp only [List.length_cons, List.append_assoc, List.cons_append, List.nil_append]
        congr 1; omega
      have hx : ((pre ++ enc u).take (pre.length + (enc u).length - 1))[pre.length]? = some (u % 128 + 128) := by
        rw [List.getElem?_take, if_pos (by rw [e]; simp; omega), e]; simp
      rw [getF_more hk9 hx (by omega), hs]
      have hlt : u / 128 * 128 ^ (pre.length + 1) ≤ u * 128 ^ pre.length := by
        rw [Nat.pow_succ, Nat.mul_comm (128 ^ pre.length), ← Nat.mul_assoc]
        exact Nat.mul_le_mul_right _ (by omega)
      have := ih (u / 128) (by omega) (pre ++ [u % 128 + 128]) (acc + (u % 128 + 128) % 128 * 128 ^ pre.length) (by rw [hl]; omega) (by rw [hl]; omega)
      rw [hl] at this ⊢
      exact this
theorem getV_part (u : Nat) (h : u ≤ 18446744073709551615) : getV ((enc u).take ((enc u).length - 1)) = (0, 0, 20) := by
  have := part_short u [] 0 (by simp; omega) (by simp)
  simpa [getV] using this
theorem enc_mono (b : Nat) : ∀ a, a ≤ b → (enc a).length ≤ (enc b).length := by
  induction b using Nat.strongRecOn with
  | _ b ih =>
    intro a hab
    by_cases hb : b < 128
    · rw [enc_small hb, enc_small (by omega)]; simp
    · by_cases ha : a < 128
      · rw [enc_small ha]; exact enc_pos b
      · rw [enc_big (u := a) (by omega), enc_big (u := b) (by omega)]
        have := ih (b / 128) (by omega) (a / 128) (by omega)
        simp; omega
def encs (l : List Nat) : List Nat := l.flatMap enc
theorem encs_len (l : List Nat) (h : ∀ x ∈ l, x ≤ 18446744073709551615) : (encs l).length ≤ 10 * l.length := by
  induction l with
  | nil => simp [encs]
  | cons x l ih =>
    have h1 := enc_len10 x (h x (by simp))
    have h2 := ih (fun y hy => h y (by simp [hy]))
    rw [show encs (x :: l) = enc x ++ encs l from by simp [encs], List.length_append, List.length_cons]; omega
theorem encs_lt (l : List Nat) : ∀ x ∈ encs l, x < 256 := by
  intro x hx
  obtain ⟨u, _, hu⟩ := List.mem_flatMap.1 hx
  exact enc_lt u x hu
theorem encs_take {l : List Nat} {k x : Nat} (h : l[k]? = some x) : encs (l.take (k + 1)) = encs (l.take k) ++ enc x := by
  rw [List.take_add_one, h]; simp [encs]
theorem encs_drop {l : List Nat} {k x : Nat} (h : l[k]? = some x) : encs (l.drop k) = enc x ++ encs (l.drop (k + 1)) := by
  obtain ⟨hk, hx⟩ := List.getElem?_eq_some_iff.1 h
  rw [List.drop_eq_getElem_cons hk, hx]; simp [encs]

def wordsV (l : List Nat) : List Value := l.map (fun (n : Nat) => Value.int .u64 (n : Int))
theorem wordsV_at (l : List Nat) (k : Nat) : (wordsV l)[k]? = (l[k]?).map (fun (n : Nat) => Value.int .u64 (n : Int)) := by simp [wordsV]
theorem own_base {w : World} {B B' n : Nat} {e : TypeId} {v : Value} {xs : List Value} (h : w.ownsRow B e 1 v n xs) (hB : B' ≤ B) : w.ownsRow B' e 1 v n xs := by
  refine ⟨h.1, ?_⟩
  rcases h.2 with h2 | ⟨g, cap, cur, h1, h2, h3⟩
  · exact .inl h2
  · exact .inr ⟨g, cap, cur, h1, Nat.le_trans hB h2, h3⟩
theorem own_keep {w w' : World} {B n : Nat} {e : TypeId} {v : Value} {xs : List Value} (h : w.ownsRow B e 1 v n xs) (hb : Below w.heap.size w w') : w'.ownsRow B e 1 v n xs := by
  refine ⟨h.1, ?_⟩
  rcases h.2 with h2 | ⟨g, cap, cur, h1, h2, h3, h4⟩
  · exact .inl h2
  · have hg : g < w.heap.size := (h.lt g (by rw [h1]; rfl)).2
    exact .inr ⟨g, cap, cur, h1, h2, (hb.block g hg).trans h3, h4⟩
theorem Reads.sub {w : World} {B n g : Nat} {xs : List Value} (h : Reads w B 1 (some ⟨g, 0, none⟩) n xs) {k m : Nat} (hk : k + m ≤ n) : Reads w B 1 (some ⟨g, k, none⟩) m ((xs.drop k).take m) := by
  refine ⟨by have := h.1; simp; omega, fun h0 => ?_⟩
  obtain ⟨ad, hA, hb, hc⟩ := h.2 (by omega)
  obtain rfl := Option.some.inj hA
  refine ⟨_, rfl, hb, fun j u hu => ?_⟩
  rw [List.getElem?_take] at hu
  split at hu
  · rw [List.getElem?_drop] at hu
    have := hc (k + j) u hu
    simpa [Addr.add_lit] using this
  · simp at hu
end Go.Proofs.Ytfpegfngogkmmaa
