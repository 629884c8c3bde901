/-
  What varint.Put and the document's own Put make: the slice that came in, and the number's bytes behind it, in new memory; nothing that was there is changed. Conditions: at most 4,096 bytes came in.
-/
import Derived.Test.YtfpegfngogkmmaaRows
import Derived.Test.YtfpegfngogkmmaaWords
namespace Go.Proofs.Ytfpegfngogkmmaa
open Go.RowKit

def bytesV (l : List Nat) : List Value := l.map (fun (n : Nat) => Value.int .u8 (n : Int))
theorem bytesV_len (l : List Nat) : (bytesV l).length = l.length := by simp [bytesV]
theorem bytesV_one (l : List Nat) : ∀ u ∈ bytesV l, u.oneCell' = true := by
  intro u hu; simp only [bytesV, List.mem_map] at hu; obtain ⟨n, _, rfl⟩ := hu; rfl
theorem bytesV_app (l m : List Nat) : bytesV (l ++ m) = bytesV l ++ bytesV m := by simp [bytesV]
theorem bytesV_at (l : List Nat) (k : Nat) : (bytesV l)[k]? = (l[k]?).map (fun (n : Nat) => Value.int .u8 (n : Int)) := by simp [bytesV]

/-- The call returned a slice of the call's own that holds these bytes; what lies below block B is as it was. -/
def OwnRes (B : Nat) (w : World) (l : List Nat) (e : Ending) (w' : World) : Prop :=
  ∃ v', e = .returned v' ∧ w'.ownsRow B 5 1 v' l.length (bytesV l) ∧ Below B w w'

def enc (v : Nat) : List Nat := if v < 128 then [v] else (v % 128 + 128) :: enc (v / 128)
  termination_by v
  decreasing_by omega

theorem enc_big {u : Nat} (h : 128 ≤ u) : enc u = (u % 128 + 128) :: enc (u / 128) := by rw [enc, if_neg (by omega)]
theorem enc_small {u : Nat} (h : u < 128) : enc u = [u] := by rw [enc, if_pos h]
theorem enc_len (u : Nat) : ∀ k, u < 128 ^ k → 0 < k → (enc u).length ≤ k := by
  intro k
  induction k generalizing u with
  | zero => intro _ h; omega
  | succ k ih =>
    intro h _
    by_cases hu : u < 128
    · rw [enc_small hu]; simp
    · rw [enc_big (by omega)]
      by_cases hk : k = 0
      · subst hk; simp at h; omega
      · have := ih (u / 128) (by rw [Nat.div_lt_iff_lt_mul (by omega)]; rw [Nat.pow_succ] at h; exact h) (by omega)
        simp; omega
theorem enc_len10 (u : Nat) (h : u ≤ 18446744073709551615) : (enc u).length ≤ 10 := enc_len u 10 (Nat.lt_of_le_of_lt h (by decide)) (by decide)
theorem enc_pos (u : Nat) : 0 < (enc u).length := by rw [enc]; split <;> simp
theorem enc_lt (u : Nat) : ∀ x ∈ enc u, x < 256 := by
  induction u using Nat.strongRecOn with
  | _ u ih =>
    by_cases hu : u < 128
    · rw [enc_small hu]; simp; omega
    · rw [enc_big (by omega)]
      intro x hx
      rcases List.mem_cons.1 hx with rfl | hx
      · omega
      · exact ih (u / 128) (by omega) x hx
theorem u8_or (a b : Nat) (ha : a < 256) (hb : b < 256) : bits .or .u8 (a : Int) (b : Int) = ((a ||| b : Nat) : Int) := by
  have hx : a ||| b < 2 ^ 8 := Nat.or_lt_two_pow (by omega) (by omega)
  have e (x : Nat) (h : x < 256) : (BitVec.ofInt 8 (x : Int)).toNat = x := by rw [BitVec.ofInt_natCast, BitVec.toNat_ofNat]; exact Nat.mod_eq_of_lt (by omega)
  show IntKind.u8.wrap ((BitVec.ofInt 8 (a : Int) ||| BitVec.ofInt 8 (b : Int)).toNat : Int) = _
  rw [BitVec.toNat_or, e a ha, e b hb, IntKind.wrap_u8]
  omega
set_option maxRecDepth 100000 in
theorem or128 (u : Nat) : u % 256 ||| 128 = u % 128 + 128 := by
  have h : ∀ a, a < 256 → a ||| 128 = a % 128 + 128 := by decide
  rw [h _ (Nat.mod_lt _ (by omega))]; omega
theorem bits_or128 (u : Nat) : bits .or .u8 ((u : Int) % 256) 128 = ((u % 128 + 128 : Nat) : Int) := by
  have := u8_or (u % 256) 128 (Nat.mod_lt _ (by omega)) (by omega)
  rw [← or128, ← this]; rfl

theorem u8info : (Try.prog.info? 5).map (fun i => (i.zero, i.size, i.bytes)) = some (some (.int .u8 0), 1, 1) := by kernel_rfl
theorem tyBytes : ElemTy Try.prog 22 5 (.int .u8 0) 1 := ⟨Try.underlying22, u8info, rfl⟩

theorem own_copied {w2 : World} {g n : Nat} {xs : List Nat} (z : Array Value) (hz : z.size = n + 10) (hx : xs.length = n) (hn : n ≤ 4096)
    (h : w2.heap[g]? = some (.cells (splice z.toList 0 (bytesV xs)).toArray 5 (0, 0))) :
    w2.ownsRow g 5 1 (.slice (some ⟨g, 0, none⟩) n (n + 10)) n (bytesV xs) := by
  refine ⟨by rw [bytesV_len]; omega, .inr ⟨g, n + 10, _, rfl, Nat.le_refl _, h, by omega, by unfold maxLen; omega, ?_, ?_⟩⟩
  · have := bytesV_len xs
    simp [splice]; omega
  · have := bytesV_len xs
    simp [splice]
    rw [List.take_append_of_le_length (by omega)]; exact List.take_of_length_le (by omega)

set_option maxRecDepth 100000 in
set_option maxHeartbeats 800000 in
theorem put_any (A : Option Addr) (n c : Nat) (xs : List Nat) (v : Nat) (w : World) (hx : xs.length = n) (hr : Reads w w.heap.size 1 A n (bytesV xs)) (hn : n ≤ 4096) (hv : v ≤ 18446744073709551615) :
    Calls Try.prog 15 #[.slice A n c, .int .u64 (v : Int)] w (OwnRes w.heap.size w (xs ++ enc v)) := by
  obtain ⟨i0, hi, hz0, hz1, hz2⟩ := info_parts u8info
  have hmk := fun W => run_make (P := Try.prog) W 22 5 i0 _ Try.underlying22 hi hz0 .i64 .i64 (n : Int) ((n : Int) + 10) (by omega) (by omega) (by rw [hz2]; omega) (by omega)
  simp only [Int.toNat_natCast, hz1] at hmk
  obtain ⟨Z, hZ⟩ : ∃ Z, Z = madeCells #[Value.int IntKind.u8 0] (n + 10) := ⟨_, rfl⟩
  have hZs : Z.size = n + 10 := by rw [hZ]; exact size_madeCells _ _
  have HX := Lib.hid hx
  clear hx
  have e2 : ((n : Int) + 10).toNat = n + 10 := by omega
  simp only [e2, Nat.mul_one, show (Value.int IntKind.u8 0).cells = #[Value.int IntKind.u8 0] from rfl, ← hZ] at hmk
  clear e2
  have HZ := Lib.hid hZs
  clear hZs hZ
  have hl10 := enc_len10 v hv
  have HL := Lib.hid hl10
  clear hl10
  go_enter Try.func15, Try.ntmps15
  go_wp2_with (first
    | (with_reducible refine wpList_copy_splice rfl (.tmp 12) (.tmp 13) 22 22 rfl 5 Try.underlying22 (by rw [hi]; simp [hz1]) (some ⟨w.heap.size, 0, none⟩) A n (n + 10) n c rfl rfl w.heap.size 0 Z.toList 5 ?_ (bytesV xs) ?_ ?_ ?_ (bytesV_one xs) w.heap.size w ?_ (Nat.le_refl _) ?_))
  case refine_1 => simpa using heap_alloc_new w _
  case refine_2 => rw [bytesV_len, HX.out]; simp
  case refine_3 =>
    intro hp
    rw [bytesV_len, HX.out] at hp
    obtain ⟨ad, rfl, hb, hc⟩ := hr.2 hp
    exact ⟨ad, rfl, fun j u hu => (World.cell?_alloc_lt w _ _ (by rw [block_of_add]; exact hb)).trans (hc j u hu)⟩
  case refine_4 => rw [bytesV_len, HX.out, Array.length_toList, HZ.out]; omega
  case refine_5 => exact (Below.refl _ _).alloc (Nat.le_refl _) _
  intro w2 HG2 hB2
  have own2 := Lib.hid (own_copied Z HZ.out HX.out hn HG2.out)
  have HB2 := Lib.hid hB2
  clear HG2 hB2 hr hmk HZ
  go_wp2_with fail
  go_loopw [5, 1] (fun o x wr => ∃ (u : Nat) (pre : List Nat), x = .int .u64 (u : Int) ∧ pre.length ≤ 10 ∧ Hid (pre ++ enc u = enc v) ∧ wr.ownsRow w.heap.size 5 1 o (n + pre.length) (bytesV (xs ++ pre)) ∧ Below w.heap.size w wr) (fun _ x _ => (intOf x).toNat)
  case atStart => exact ⟨v, [], rfl, by simp, rfl, by simpa using own2.out, HB2.out⟩
  case round =>
    obtain ⟨u, pre, rfl, hpl, He, hown, hbw⟩ := hrel
    by_cases h128 : 128 ≤ u
    · obtain ⟨q, hq⟩ : ∃ q, q = u % 128 + 128 := ⟨_, rfl⟩
      have hor : bits BinOp.or IntKind.u8 ((u : Int) % 256) 128 = (q : Int) := by rw [bits_or128, hq]
      have HQ := Lib.hid hq
      clear hq
      go_wp2_with (at_builtin; refine wpList_push tyBytes rfl _ _ rfl w.heap.size _ _ _ (.int .u8 q) hown rfl rfl rfl hbw.size (by omega) (by unfold maxLen; omega) ?_)
      intro v' w3 hown3 hb3 _ _
      go_wp2_with fail
      go_roundw
      case rel => 
        refine ⟨u / 128, pre ++ [q], by go_num, ?_, ?_, ?_, hb3 _ hbw⟩
        · have := HL.out; rw [← He.out, enc_big h128] at this; have := enc_pos (u / 128); simp at *; omega
        · show _ = _
          rw [← He.out, enc_big h128, HQ.out]; simp
        · simpa [bytesV_app, bytesV, Nat.add_assoc] using hown3
      case measure => simp [intOf]; omega
    · go_wp2_with (at_builtin; refine wpList_push tyBytes rfl _ _ rfl w.heap.size _ _ _ (.int .u8 u) hown rfl rfl rfl hbw.size (by omega) (by unfold maxLen; omega) ?_)
      intro v' w3 hown3 hb3 _ _
      go_wp2_with fail
      go_ret
      refine ⟨v', rfl, ?_, hb3 _ hbw⟩
      have e : enc v = pre ++ [u] := by rw [← He.out, enc_small (by omega)]
      rw [e, ← HX.out] at *
      simpa [bytesV_app, bytesV, Nat.add_assoc] using hown3
end Go.Proofs.Ytfpegfngogkmmaa
