/-
  What varint.Get answers of a slice of bytes: the document's own reckoning 'getF' on the list of its bytes; nothing is changed. Condition: the slice has at most 4,096 bytes.
-/
import Derived.Test.YtfpegfngogkmmaaPut
namespace Go.Proofs.Ytfpegfngogkmmaa
open Go.RowKit

/-- From place i on, acc reckoned so far, so many bytes still let in: number, bytes, error. -/
def getF (l : List Nat) (i acc : Nat) : Nat → Nat × Nat × Nat
  | 0 => (0, 0, 21)
  | k + 1 => if l.length ≤ i then (0, 0, 20) else if i = 9 ∧ 1 < l.getD i 0 then (0, 0, 21) else
      if 128 ≤ l.getD i 0 then getF l (i + 1) (acc + l.getD i 0 % 128 * 128 ^ i) k
      else if l.getD i 0 = 0 ∧ 0 < i then (0, 0, 21) else (acc + l.getD i 0 % 128 * 128 ^ i, i + 1, 0)

def getV (l : List Nat) : Nat × Nat × Nat := getF l 0 0 10
def Ret3 (w : World) (r : Nat × Nat × Nat) (e : Ending) (w' : World) : Prop :=
  e = .returned (.tuple #[.int .u64 (r.1 : Int), .int .i64 (r.2.1 : Int), .int .i64 (r.2.2 : Int)]) ∧ w = w'

theorem getF_end (l : List Nat) (k acc : Nat) (hk : k < 10) (h : l.length ≤ k) : getF l k acc (10 - k) = (0, 0, 20) := by
  obtain ⟨j, hj⟩ : ∃ j, 10 - k = j + 1 := ⟨9 - k, by omega⟩
  rw [hj, getF, if_pos h]
theorem getF_ten (l : List Nat) (acc : Nat) : getF l 10 acc (10 - 10) = (0, 0, 21) := rfl
theorem getF_nine {l : List Nat} {k acc x : Nat} (hk : k = 9) (h : l[k]? = some x) (h1 : 1 < x) : getF l k acc (10 - k) = (0, 0, 21) := by
  obtain ⟨j, hj⟩ : ∃ j, 10 - k = j + 1 := ⟨9 - k, by omega⟩
  have hl := (List.getElem?_eq_some_iff.1 h).1
  rw [hj, getF, if_neg (by omega), if_pos ⟨hk, by simpa [List.getD, h] using h1⟩]
theorem getF_more {l : List Nat} {k acc x : Nat} (hk : k < 9) (h : l[k]? = some x) (h1 : 128 ≤ x) : getF l k acc (10 - k) = getF l (k + 1) (acc + x % 128 * 128 ^ k) (10 - (k + 1)) := by
  obtain ⟨j, hj⟩ : ∃ j, 10 - k = j + 1 := ⟨9 - k, by omega⟩
  have hl := (List.getElem?_eq_some_iff.1 h).1
  have hd : l.getD k 0 = x := by simp [List.getD, h]
  rw [hj, getF, if_neg (by omega), if_neg (by omega), hd, if_pos h1, show 10 - (k + 1) = j from by omega]
theorem getF_zero {l : List Nat} {k acc x : Nat} (hk : k < 10) (h : l[k]? = some x) (h1 : x = 0) (h2 : 0 < k) : getF l k acc (10 - k) = (0, 0, 21) := by
  obtain ⟨j, hj⟩ : ∃ j, 10 - k = j + 1 := ⟨9 - k, by omega⟩
  have hl := (List.getElem?_eq_some_iff.1 h).1
  have hd : l.getD k 0 = x := by simp [List.getD, h]
  rw [hj, getF, if_neg (by omega), hd, if_neg (by omega), if_neg (by omega), if_pos ⟨h1, h2⟩]
theorem getF_done {l : List Nat} {k acc x : Nat} (hk : k < 10) (h : l[k]? = some x) (h1 : x < 128) (h2 : ¬ (k = 9 ∧ 1 < x)) (h3 : ¬ (x = 0 ∧ 0 < k)) : getF l k acc (10 - k) = (acc + x % 128 * 128 ^ k, k + 1, 0) := by
  obtain ⟨j, hj⟩ : ∃ j, 10 - k = j + 1 := ⟨9 - k, by omega⟩
  have hl := (List.getElem?_eq_some_iff.1 h).1
  have hd : l.getD k 0 = x := by simp [List.getD, h]
  rw [hj, getF, if_neg (by omega), hd, if_neg h2, if_neg (by omega), if_neg h3]

theorem u8_and127 (x : Nat) (h : x < 256) : bits .and .u8 (x : Int) 127 = ((x % 128 : Nat) : Int) := by
  have e (x : Nat) (h : x < 256) : (BitVec.ofInt 8 (x : Int)).toNat = x := by rw [BitVec.ofInt_natCast, BitVec.toNat_ofNat]; exact Nat.mod_eq_of_lt (by omega)
  show IntKind.u8.wrap ((BitVec.ofInt 8 (x : Int) &&& BitVec.ofInt 8 ((127 : Nat) : Int)).toNat : Int) = _
  rw [BitVec.toNat_and, e x h, e 127 (by omega), IntKind.wrap_u8, show (127 : Nat) = 2 ^ 7 - 1 from rfl, Nat.and_two_pow_sub_one_eq_mod]
  omega
theorem u64_or (a b : Nat) (ha : a < 18446744073709551616) (hb : b < 18446744073709551616) : bits .or .u64 (a : Int) (b : Int) = ((a ||| b : Nat) : Int) := by
  have hx : a ||| b < 2 ^ 64 := Nat.or_lt_two_pow (by omega) (by omega)
  have e (x : Nat) (h : x < 18446744073709551616) : (BitVec.ofInt 64 (x : Int)).toNat = x := by rw [BitVec.ofInt_natCast, BitVec.toNat_ofNat]; exact Nat.mod_eq_of_lt (by omega)
  show IntKind.u64.wrap ((BitVec.ofInt 64 (a : Int) ||| BitVec.ofInt 64 (b : Int)).toNat : Int) = _
  rw [BitVec.toNat_or, e a ha, e b hb, IntKind.wrap_u64]
  omega
theorem pow128 (k : Nat) : 128 ^ k = 2 ^ (7 * k) := by rw [show 128 = 2 ^ 7 from rfl, ← Nat.pow_mul]
/-- One byte more behind what was reckoned. -/
theorem or_step (acc y k : Nat) (hk : k < 10) (hy : y < 128) (h9 : k = 9 → y ≤ 1) (ha : acc < 128 ^ k) :
    bits .or .u64 (acc : Int) (IntKind.u64.wrap ((y : Int) * 2 ^ (7 * k))) = ((acc + y * 128 ^ k : Nat) : Int) := by
  have hp : 128 ^ k * y < 18446744073709551616 := by
    by_cases hk9 : k = 9
    · subst hk9; have := h9 rfl; have : 128 ^ 9 * y ≤ 128 ^ 9 * 1 := Nat.mul_le_mul_left _ this; omega
    · have h1 : 128 ^ k ≤ 128 ^ 8 := Nat.pow_le_pow_right (by omega) (by omega)
      have : 128 ^ k * y ≤ 128 ^ 8 * 127 := Nat.mul_le_mul h1 (by omega)
      omega
  have ha' : acc < 18446744073709551616 := by
    have h1 : 128 ^ k ≤ 128 ^ 9 := Nat.pow_le_pow_right (by omega) (by omega)
    omega
  have e : ((y : Int) * 2 ^ (7 * k)) = ((y * 128 ^ k : Nat) : Int) := by rw [pow128]; simp
  have hp' : y * 128 ^ k < 18446744073709551616 := by rw [Nat.mul_comm]; exact hp
  have ew : IntKind.u64.wrap ((y * 128 ^ k : Nat) : Int) = ((y * 128 ^ k : Nat) : Int) := by rw [IntKind.wrap_u64]; omega
  rw [e, ew, u64_or _ _ ha' hp']
  congr 1
  rw [Nat.or_comm, pow128, Nat.mul_comm y, Nat.add_comm]
  rw [pow128] at ha
  exact (Nat.two_pow_add_eq_or_of_lt ha y).symm
theorem acc_step {acc y k : Nat} (hy : y < 128) (ha : acc < 128 ^ k) : acc + y * 128 ^ k < 128 ^ (k + 1) := by
  have : (y + 1) * 128 ^ k ≤ 128 * 128 ^ k := Nat.mul_le_mul_right _ (by omega)
  rw [Nat.pow_succ, Nat.mul_comm (128 ^ k)]
  rw [Nat.add_mul] at this
  omega

set_option maxRecDepth 100000 in
set_option maxHeartbeats 1600000 in
theorem get_any (A : Option Addr) (n c : Nat) (l : List Nat) (w : World) (hx : l.length = n) (hr : Reads w w.heap.size 1 A n (bytesV l)) (hb : ∀ x ∈ l, x < 256) (hn : n ≤ 4096) :
    Calls Try.prog 18 #[.slice A n c] w (Ret3 w (getV l)) := by
  have HX := Lib.hid hx
  have HR := Lib.hid hr
  have HB := Lib.hid hb
  clear hx hr hb
  go_enter Try.func18, Try.ntmps18
  go_wp2_with fail
  go_loop [5, 8] (fun v i => ∃ (k acc : Nat), k ≤ 10 ∧ k ≤ n ∧ i = .int .i64 (k : Int) ∧ v = .int .u64 (acc : Int) ∧ Hid (acc < 128 ^ k) ∧ Hid (getF l k acc (10 - k) = getV l)) (fun _ i => 10 - (intOf i).toNat)
  case atStart => exact ⟨0, 0, by omega, by omega, rfl, rfl, (show 0 < 128 ^ 0 by decide), rfl⟩
  case round =>
    obtain ⟨k, acc, hk, hkn', rfl, rfl, Hacc, He⟩ := hrel
    by_cases h10 : k < 10
    · by_cases hkn : k < n
      · have hne : ((k : Int) == (n : Int)) = false := by simp; omega
        obtain ⟨b, off, u, rfl, hlt, hxk, hcell⟩ := HR.out.spot hkn
        obtain ⟨x, hxx⟩ : ∃ x, l[k]? = some x := ⟨l[k]'(by have := HX.out; omega), List.getElem?_eq_getElem _⟩
        have hux : u = .int .u8 (x : Int) := by rw [bytesV_at, hxx] at hxk; simpa using hxk.symm
        subst hux
        have hx256 : x < 256 := HB.out x (List.mem_of_getElem? hxx)
        clear hxk
        have HXX := Lib.hid hxx
        clear hxx
        obtain ⟨y, hy⟩ : ∃ y, y = x % 128 := ⟨_, rfl⟩
        have hand : bits BinOp.and IntKind.u8 (x : Int) 127 = (y : Int) := by rw [u8_and127 x hx256, hy]
        have hy128 : y < 128 := by omega
        by_cases c1 : k = 9 ∧ 1 < x
        · have hk9 : ((k : Int) == 9) = true := by simp; omega
          have hx1 : (1 : Int) < (x : Int) := by omega
          have HE := Lib.hid ((getF_nine (acc := acc) c1.1 HXX.out c1.2).symm.trans He.out)
          clear hand hy c1
          go_wp2_with fail
          go_ret3
          exact ⟨by rw [← HE.out]; rfl, rfl⟩
        · obtain ⟨acc2, h2⟩ : ∃ acc2, acc2 = acc + y * 128 ^ k := ⟨_, rfl⟩
          have hor : bits .or .u64 (acc : Int) (IntKind.u64.wrap ((y : Int) * 2 ^ (7 * k))) = (acc2 : Int) := by
            rw [h2]; exact or_step acc y k h10 hy128 (fun h => by omega) Hacc.out
          have HA2 := Lib.hid h2
          have HY := Lib.hid hy
          clear h2 hy
          have hk9 : (((k : Int) == 9) = true ∧ ¬ 1 < (x : Int)) ∨ ((k : Int) == 9) = false := by
            by_cases h : k = 9
            · exact .inl ⟨by simp; omega, by omega⟩
            · exact .inr (by simp; omega)
          have C1 := Lib.hid c1
          clear c1
          by_cases c2 : 128 ≤ x
          · have hk9' : ((k : Int) == 9) = false := by
              rcases hk9 with ⟨_, h⟩ | h
              · omega
              · exact h
            clear hk9
            have HK := Lib.hid (show k < 9 by simp at hk9'; omega)
            go_wp2_with fail
            go_round
            case rel => exact ⟨k + 1, acc2, by omega, by omega, by go_num, rfl, (show acc2 < _ by rw [HA2.out]; exact acc_step hy128 Hacc.out), (show _ = _ by rw [HA2.out, HY.out, ← getF_more HK.out HXX.out c2]; exact He.out)⟩
            case measure => simp [intOf]; omega
          · by_cases c3 : x = 0 ∧ 0 < k
            · have hx0 : ((x : Int) == 0) = true := by simp; omega
              have hk0 : (0 : Int) < (k : Int) := by omega
              have HE := Lib.hid ((getF_zero (acc := acc) h10 HXX.out c3.1 c3.2).symm.trans He.out)
              clear c3
              rcases hk9 with ⟨hk9, hx1⟩ | hk9
              all_goals
                go_wp2_with fail
                go_ret3
                exact ⟨by rw [← HE.out]; rfl, rfl⟩
            · have HE := Lib.hid ((getF_done (acc := acc) h10 HXX.out (by omega) C1.out c3).symm.trans He.out)
              by_cases c4 : x = 0
              · have hx0 : ((x : Int) == 0) = true := by simp; omega
                have hk0 : ¬ (0 : Int) < (k : Int) := by omega
                clear c3 c4
                rcases hk9 with ⟨hk9, hx1⟩ | hk9
                all_goals
                  go_wp2_with fail
                  go_ret3
                  exact ⟨by rw [← HE.out, HA2.out, HY.out]; rfl, rfl⟩
              · have hx0 : ((x : Int) == 0) = false := by simp; omega
                clear c3 c4
                rcases hk9 with ⟨hk9, hx1⟩ | hk9
                all_goals
                  go_wp2_with fail
                  go_ret3
                  exact ⟨by rw [← HE.out, HA2.out, HY.out]; rfl, rfl⟩
      · obtain rfl : k = n := by omega
        have HE := Lib.hid ((getF_end l k acc h10 (by have := HX.out; omega)).symm.trans He.out)
        go_wp2_with fail
        go_ret3
        exact ⟨by rw [← HE.out]; rfl, rfl⟩
    · obtain rfl : k = 10 := by omega
      have HE := Lib.hid ((getF_ten l acc).symm.trans He.out)
      clear h10
      go_wp2_with fail
      go_ret3
      exact ⟨by rw [← HE.out]; rfl, rfl⟩
end Go.Proofs.Ytfpegfngogkmmaa
