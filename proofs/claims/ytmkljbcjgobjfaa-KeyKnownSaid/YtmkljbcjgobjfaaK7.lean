/-
  Layer key: the program's readers of one value, and After. No condition.
-/
import Derived.Test.YtmkljbcjgobjfaaK6
set_option linter.unusedSimpArgs false
set_option linter.unusedVariables false
namespace Go.Proofs.Ytmkljbcjgobjfaa
open Go.RowKit Go.DL

set_option maxHeartbeats 4000000 in
theorem after_c (b : List UInt8) (hs : b.length ≤ 1099511627776) : Fun Try.prog 22 [rdB b] (· = rdB (b ++ [255])) := by
  refine Fun.of Try.func22 rfl (Nat.le_of_ble_eq_true rfl) fun C => ?_
  refine WC.seq fun Fh1_ h1_ => ?_
  refine WC.region ?_
  refine RG.op _ _ rfl rfl (o_assign (.v _) rfl) ?_
  refine RG.nil (h1_ _ ?_)
  refine WC.seq fun Fh2_ h2_ => ?_
  refine WC.region ?_
  refine RG.op _ _ rfl rfl (o_move (.rd _ _) rfl) ?_
  refine RG.op _ _ rfl rfl (o_len_rd rfl Try.underlying22) ?_
  refine RG.op _ _ rfl rfl (o_move (.rd _ _) rfl) ?_
  refine RG.op _ _ rfl rfl (o_len_rd rfl Try.underlying22) ?_
  refine RG.op _ _ rfl rfl (o_add rfl rfl (by first | omega | exact ubyte _ | (simp only [bytesD_len, zeros_len, flatMap_len vc_len, List.length_append, List.length_take, List.length_drop, List.length_map, List.length_nil, List.length_cons, List.length_replicate, List.length_reverse, List.length_set, List.length_range, strB_size] <;> omega)) (by first | omega | exact ubyte _ | (simp only [bytesD_len, zeros_len, flatMap_len vc_len, List.length_append, List.length_take, List.length_drop, List.length_map, List.length_nil, List.length_cons, List.length_replicate, List.length_reverse, List.length_set, List.length_range, strB_size] <;> omega))) ?_
  refine RG.op _ _ rfl rfl (o_makeT b.length b.length (b.length + 1) rfl rfl Try.underlying22 Ty.inf5 rfl rfl (by first | omega | exact ubyte _ | (simp only [bytesD_len, zeros_len, flatMap_len vc_len, List.length_append, List.length_take, List.length_drop, List.length_map, List.length_nil, List.length_cons, List.length_replicate, List.length_reverse, List.length_set, List.length_range, strB_size] <;> omega)) (by first | omega | exact ubyte _ | (simp only [bytesD_len, zeros_len, flatMap_len vc_len, List.length_append, List.length_take, List.length_drop, List.length_map, List.length_nil, List.length_cons, List.length_replicate, List.length_reverse, List.length_set, List.length_range, strB_size] <;> omega)) (by first | omega | exact ubyte _ | (simp only [bytesD_len, zeros_len, flatMap_len vc_len, List.length_append, List.length_take, List.length_drop, List.length_map, List.length_nil, List.length_cons, List.length_replicate, List.length_reverse, List.length_set, List.length_range, strB_size] <;> omega)) (by first | omega | exact ubyte _ | (simp only [bytesD_len, zeros_len, flatMap_len vc_len, List.length_append, List.length_take, List.length_drop, List.length_map, List.length_nil, List.length_cons, List.length_replicate, List.length_reverse, List.length_set, List.length_range, strB_size] <;> omega)) (by first | omega | exact ubyte _ | (simp only [bytesD_len, zeros_len, flatMap_len vc_len, List.length_append, List.length_take, List.length_drop, List.length_map, List.length_nil, List.length_cons, List.length_replicate, List.length_reverse, List.length_set, List.length_range, strB_size] <;> omega))) ?_
  refine RG.op _ _ rfl rfl (o_assign (.own _ _ _ _ _) rfl) ?_
  refine RG.nil (h2_ _ ?_)
  refine WC.seq fun Fh3_ h3_ => ?_
  refine WC.region ?_
  refine RG.op _ _ rfl rfl (o_move (.own _ _ _ _ _) rfl) ?_
  refine RG.op _ _ rfl rfl (o_move (.rd _ _) rfl) ?_
  refine RG.op _ _ rfl rfl (o_copyA rfl rfl Try.underlying22 (sz_of Ty.inf5) rfl rfl (by first | omega | exact ubyte _ | (simp only [bytesD_len, zeros_len, flatMap_len vc_len, List.length_append, List.length_take, List.length_drop, List.length_map, List.length_nil, List.length_cons, List.length_replicate, List.length_reverse, List.length_set, List.length_range, strB_size] <;> omega)) rfl (by first | omega | exact ubyte _ | (simp only [bytesD_len, zeros_len, flatMap_len vc_len, List.length_append, List.length_take, List.length_drop, List.length_map, List.length_nil, List.length_cons, List.length_replicate, List.length_reverse, List.length_set, List.length_range, strB_size] <;> omega)) (by repeat (first | exact bytesD_one _ | exact one_nil | exact one_map (fun _ => rfl) _ | exact one_vals _ | refine one_app ?_ ?_ | refine one_cons rfl ?_))) ?_
  refine RG.nil (h3_ _ ?_)
  refine WC.seq fun Fh4_ h4_ => ?_
  refine WC.region ?_
  refine RG.op _ _ rfl rfl (o_move (.own _ _ _ _ _) rfl) ?_
  refine RG.op _ _ rfl rfl (o_litP (cs := [(B8 255)]) Try.underlying22 Ty.inf5 rfl rfl rfl rfl (by repeat (first | exact pu_bytes _ | exact pu_nil | exact pu_vs rfl | exact pu_map (fun _ => .v _) _ | exact pu_vals _ | refine pu_app ?_ ?_ | refine pu_cons (by first | exact .v _ | exact .rd _ _ | exact .adr _ | exact .mp _ _ | exact .agg _ (by repeat (first | exact pu_bytes _ | exact pu_nil | exact pu_vs rfl | exact pu_map (fun _ => .v _) _ | exact pu_vals _ | refine pu_app ?_ ?_ | refine pu_cons (by first | exact .v _ | exact .rd _ _ | exact .adr _ | exact .mp _ _ | exact .agg _ (pu_vs rfl)) ?_)) | exact .tup _ (by repeat (first | exact pu_bytes _ | exact pu_nil | exact pu_vs rfl | exact pu_map (fun _ => .v _) _ | exact pu_vals _ | refine pu_app ?_ ?_ | refine pu_cons (by first | exact .v _ | exact .rd _ _ | exact .adr _ | exact .mp _ _ | exact .agg _ (pu_vs rfl)) ?_)) | exact .fn _ _ (by repeat (first | exact pu_bytes _ | exact pu_nil | exact pu_vs rfl | exact pu_map (fun _ => .v _) _ | exact pu_vals _ | refine pu_app ?_ ?_ | refine pu_cons (by first | exact .v _ | exact .rd _ _ | exact .adr _ | exact .mp _ _ | exact .agg _ (pu_vs rfl)) ?_)) | exact .iface _ _ (.v _) | exact .iface _ _ (.agg _ (by repeat (first | exact pu_bytes _ | exact pu_nil | exact pu_vs rfl | exact pu_map (fun _ => .v _) _ | exact pu_vals _ | refine pu_app ?_ ?_ | refine pu_cons (by first | exact .v _ | exact .rd _ _ | exact .adr _ | exact .mp _ _ | exact .agg _ (pu_vs rfl)) ?_)))) ?_))) ?_
  refine RG.op _ _ rfl rfl (o_appT (Elem.of Try.underlying22 Ty.inf5 rfl (by decide)) rfl rfl rfl (by first | omega | exact ubyte _ | (simp only [bytesD_len, zeros_len, flatMap_len vc_len, List.length_append, List.length_take, List.length_drop, List.length_map, List.length_nil, List.length_cons, List.length_replicate, List.length_reverse, List.length_set, List.length_range, strB_size] <;> omega)) (by first | omega | exact ubyte _ | (simp only [bytesD_len, zeros_len, flatMap_len vc_len, List.length_append, List.length_take, List.length_drop, List.length_map, List.length_nil, List.length_cons, List.length_replicate, List.length_reverse, List.length_set, List.length_range, strB_size] <;> omega)) (by repeat (first | exact bytesD_one _ | exact one_nil | exact one_map (fun _ => rfl) _ | exact one_vals _ | refine one_app ?_ ?_ | refine one_cons rfl ?_)) (by first | omega | exact ubyte _ | (simp only [bytesD_len, zeros_len, flatMap_len vc_len, List.length_append, List.length_take, List.length_drop, List.length_map, List.length_nil, List.length_cons, List.length_replicate, List.length_reverse, List.length_set, List.length_range, strB_size] <;> omega)) (by first | omega | exact ubyte _ | (simp only [bytesD_len, zeros_len, flatMap_len vc_len, List.length_append, List.length_take, List.length_drop, List.length_map, List.length_nil, List.length_cons, List.length_replicate, List.length_reverse, List.length_set, List.length_range, strB_size] <;> omega))) ?_
  refine RG.op _ _ rfl rfl (o_assign (.own _ _ _ _ _) rfl) ?_
  refine RG.nil (h4_ _ ?_)
  refine WC.ret ?_
  exact Ends.r1 rfl (.tmp _ (.own _ _ _ _ _) rfl) (.tb rfl (by repeat (first | exact pu_bytes _ | exact pu_nil | exact pu_vs rfl | exact pu_map (fun _ => .v _) _ | exact pu_vals _ | refine pu_app ?_ ?_ | refine pu_cons (by first | exact .v _ | exact .rd _ _ | exact .adr _ | exact .mp _ _ | exact .agg _ (by repeat (first | exact pu_bytes _ | exact pu_nil | exact pu_vs rfl | exact pu_map (fun _ => .v _) _ | exact pu_vals _ | refine pu_app ?_ ?_ | refine pu_cons (by first | exact .v _ | exact .rd _ _ | exact .adr _ | exact .mp _ _ | exact .agg _ (pu_vs rfl)) ?_)) | exact .tup _ (by repeat (first | exact pu_bytes _ | exact pu_nil | exact pu_vs rfl | exact pu_map (fun _ => .v _) _ | exact pu_vals _ | refine pu_app ?_ ?_ | refine pu_cons (by first | exact .v _ | exact .rd _ _ | exact .adr _ | exact .mp _ _ | exact .agg _ (pu_vs rfl)) ?_)) | exact .fn _ _ (by repeat (first | exact pu_bytes _ | exact pu_nil | exact pu_vs rfl | exact pu_map (fun _ => .v _) _ | exact pu_vals _ | refine pu_app ?_ ?_ | refine pu_cons (by first | exact .v _ | exact .rd _ _ | exact .adr _ | exact .mp _ _ | exact .agg _ (pu_vs rfl)) ?_)) | exact .iface _ _ (.v _) | exact .iface _ _ (.agg _ (by repeat (first | exact pu_bytes _ | exact pu_nil | exact pu_vs rfl | exact pu_map (fun _ => .v _) _ | exact pu_vals _ | refine pu_app ?_ ?_ | refine pu_cons (by first | exact .v _ | exact .rd _ _ | exact .adr _ | exact .mp _ _ | exact .agg _ (pu_vs rfl)) ?_)))) ?_))) (rd_eq (by simp) (by simp [bytesD]))
/-- What a reader answers. -/
def rvE : Except Int (Val × Nat) → Val
  | .ok p => p.1
  | .error _ => ⟨0, 0, []⟩
def rnE : Except Int (Val × Nat) → Nat
  | .ok p => p.2
  | .error _ => 0
def reE : Except Int (Val × Nat) → Int
  | .ok _ => 0
  | .error e => e
def rr (e : Except Int (Val × Nat)) : D := .tup [VD (rvE e), I64 (rnE e), I64 (reE e)]
theorem rr_eq {v v' : Val} {m : Int} {n : Nat} (h : v = v') (hm : m = n) : D.tup [VD v, I64 m, I64 0] = rr (.ok (v', n)) := by subst h hm; rfl
def nullM : Except Int (Val × Nat) := .ok (⟨0, 0, []⟩, 1)
def boolM (b : List UInt8) : Except Int (Val × Nat) :=
  if b.length < 2 then .error 20 else if 1 < (b.getD 1 0).toNat then .error 21 else .ok (⟨1, ((b.getD 1 0).toNat : Int), []⟩, 2)
def numU (w : List UInt8) : Nat := w.foldl (fun u c => u * 256 + c.toNat) 0
def unI (u : Nat) : Int := sgn ((u + 9223372036854775808) % 18446744073709551616)
def intM (b : List UInt8) : Except Int (Val × Nat) :=
  if b.length < 9 then .error 20 else .ok (⟨2, unI (numU ((b.drop 1).take 8)), []⟩, 9)
def textM : List UInt8 → Except Int (List UInt8 × Nat)
  | [] => .error 20
  | [_] => .error 20
  | c :: d :: r => if c ≠ 0 then (textM (d :: r)).map fun p => (c :: p.1, p.2 + 1) else if d = 255 then (textM r).map fun p => (0 :: p.1, p.2 + 2) else if d = 1 then .ok ([], 2) else .error 21
def addT (s : List UInt8) (i : Nat) : Except Int (List UInt8 × Nat) → Except Int (List UInt8 × Nat) := Except.map fun p => (s ++ p.1, i + p.2)
def textR (b : List UInt8) : Except Int (Val × Nat) := (textM (b.drop 1)).map fun p => (⟨3, 0, p.1⟩, p.2 + 1)
theorem addT_addT (s t : List UInt8) (i j : Nat) (e : Except Int (List UInt8 × Nat)) : addT s i (addT t j e) = addT (s ++ t) (i + j) e := by
  cases e <;> simp [addT, Except.map, Nat.add_assoc]
section
variable {w : List UInt8} {i : Nat}
theorem text_1 (c : UInt8) : textM [c] = .error 20 := by unfold textM; rfl
theorem text_0 : textM [] = .error 20 := by unfold textM; rfl
theorem text_2 (c d : UInt8) (r : List UInt8) : textM (c :: d :: r) = if c ≠ 0 then (textM (d :: r)).map fun p => (c :: p.1, p.2 + 1) else if d = 255 then (textM r).map fun p => (0 :: p.1, p.2 + 2) else if d = 1 then .ok ([], 2) else .error 21 := by rw [textM.eq_def]
theorem drop2 (h : i + 1 < w.length) : w.drop i = w[i] :: w[i + 1] :: w.drop (i + 2) := by
  rw [List.drop_eq_getElem_cons (by omega), List.drop_eq_getElem_cons h]
theorem drop1 (h : i < w.length) (he : i + 1 = w.length) : w.drop i = [w[i]] := by
  rw [List.drop_eq_getElem_cons h, List.drop_of_length_le (by omega)]
theorem text_a (h : i < w.length) (hc : w[i] ≠ 0) : textM (w.drop i) = addT [w[i]] 1 (textM (w.drop (i + 1))) := by
  rcases Nat.lt_or_ge (i + 1) w.length with h1 | h1
  · rw [drop2 h1, text_2, if_pos hc, ← List.drop_eq_getElem_cons h1]; cases textM (w.drop (i + 1)) <;> simp [addT, Except.map, Nat.add_comm]
  · rw [drop1 h (by omega), text_1, List.drop_of_length_le h1, text_0]; rfl
theorem text_b (h : i < w.length) (hc : w[i] = 0) (he : i + 1 = w.length) : textM (w.drop i) = .error 20 := by
  rw [drop1 h he, text_1]
theorem text_c (h : i + 1 < w.length) (hc : w[i] = 0) (hd : w[i + 1] = 255) : textM (w.drop i) = addT [0] 2 (textM (w.drop (i + 2))) := by
  rw [drop2 h, text_2, if_neg (by simp [hc]), if_pos hd]; cases textM (w.drop (i + 2)) <;> simp [addT, Except.map, Nat.add_comm]
theorem text_d (h : i + 1 < w.length) (hc : w[i] = 0) (hd : w[i + 1] = 1) : textM (w.drop i) = .ok ([], 2) := by
  rw [drop2 h, text_2, if_neg (by simp [hc]), if_neg (by rw [hd]; decide), if_pos hd]
theorem text_e (h : i + 1 < w.length) (hc : w[i] = 0) (hd : w[i + 1] ≠ 255) (hd' : w[i + 1] ≠ 1) : textM (w.drop i) = .error 21 := by
  rw [drop2 h, text_2, if_neg (by simp [hc]), if_neg hd, if_neg hd']
theorem text_f (h : w.length ≤ i) : textM (w.drop i) = .error 20 := by rw [List.drop_of_length_le h, text_0]
end
theorem num_step {w : List UInt8} {k : Nat} (h : k < w.length) : numU (w.take (k + 1)) = numU (w.take k) * 256 + w[k].toNat := by
  unfold numU
  rw [List.take_succ_eq_append_getElem h, List.foldl_append]; rfl
theorem num_lt (w : List UInt8) : ∀ k, k ≤ w.length → numU (w.take k) < 256 ^ k
  | 0, _ => by simp [numU]
  | k + 1, h => by
    have := num_lt w k (by omega)
    have h2 := (w[k]'(by omega)).toNat_lt
    rw [num_step (by omega), Nat.pow_succ]; omega
theorem num_lt8 (w : List UInt8) (k : Nat) (h : k ≤ w.length) (h8 : k ≤ 8) : numU (w.take k) < 18446744073709551616 :=
  Nat.lt_of_lt_of_le (num_lt w k h) (Nat.le_trans (Nat.pow_le_pow_right (by omega) h8) (by decide))
theorem num_lt7 (w : List UInt8) (k : Nat) (h : k ≤ w.length) (h8 : k ≤ 7) : numU (w.take k) < 72057594037927936 :=
  Nat.lt_of_lt_of_le (num_lt w k h) (Nat.le_trans (Nat.pow_le_pow_right (by omega) h8) (by decide))
theorem or_byte {u c : Nat} (hu : u < 72057594037927936) (hc : c < 256) : (u * 2 ^ 8 % 18446744073709551616) ||| c = u * 256 + c := by
  rw [Nat.mod_eq_of_lt (by omega), Nat.mul_comm u, ← Nat.two_pow_add_eq_or_of_lt (i := 8) hc]
theorem getD_at {b : List UInt8} {i : Nat} (h : i < b.length) : b.getD i 0 = b[i] := by simp [List.getD, h]

set_option maxHeartbeats 4000000 in
theorem rNull_c (b : List UInt8) : Fun Try.prog 63 [rdB b] (· = rr nullM) := by
  refine Fun.of Try.func63 rfl (Nat.le_of_ble_eq_true rfl) fun C => ?_
  refine WC.seq fun Fh1_ h1_ => ?_
  refine WC.region ?_
  refine RG.op _ _ rfl rfl (o_alloc (z_of Ty.inf41) rfl) ?_
  refine RG.op _ _ rfl rfl (o_assign (.v _) rfl) ?_
  refine RG.op _ _ rfl rfl (o_assign (.v _) rfl) ?_
  refine RG.nil (h1_ _ ?_)
  refine WC.seq fun Fh2_ h2_ => ?_
  refine WC.region ?_
  refine RG.op _ _ rfl rfl (o_build (cs := [B8 0, I64 0, S []]) Try.underlying41 Ty.inf41 (Ty.pl41 Try.underlying41) rfl) ?_
  refine RG.op _ _ rfl rfl (o_store (d := (.agg [_, _, _])) rfl rfl rfl rfl (sz_of Ty.inf41) (Nat.le_of_ble_eq_true rfl) rfl) ?_
  refine RG.op _ _ rfl rfl (o_assign (.v _) rfl) ?_
  refine RG.op _ _ rfl rfl (o_assign (.v _) rfl) ?_
  refine RG.nil (h2_ _ ?_)
  refine WC.ret ?_
  exact Ends.r3 rfl (.agg rfl Try.underlying41 rfl (sz_of Ty.inf41) rfl rfl rfl) (.tmp _ (.v _) rfl) (.tmp _ (.v _) rfl) (.pure' (by first | exact .v _ | exact .rd _ _ | exact .adr _ | exact .mp _ _ | exact .agg _ (by repeat (first | exact pu_bytes _ | exact pu_nil | exact pu_vs rfl | exact pu_map (fun _ => .v _) _ | exact pu_vals _ | refine pu_app ?_ ?_ | refine pu_cons (by first | exact .v _ | exact .rd _ _ | exact .adr _ | exact .mp _ _ | exact .agg _ (pu_vs rfl)) ?_)) | exact .tup _ (by repeat (first | exact pu_bytes _ | exact pu_nil | exact pu_vs rfl | exact pu_map (fun _ => .v _) _ | exact pu_vals _ | refine pu_app ?_ ?_ | refine pu_cons (by first | exact .v _ | exact .rd _ _ | exact .adr _ | exact .mp _ _ | exact .agg _ (pu_vs rfl)) ?_)) | exact .fn _ _ (by repeat (first | exact pu_bytes _ | exact pu_nil | exact pu_vs rfl | exact pu_map (fun _ => .v _) _ | exact pu_vals _ | refine pu_app ?_ ?_ | refine pu_cons (by first | exact .v _ | exact .rd _ _ | exact .adr _ | exact .mp _ _ | exact .agg _ (pu_vs rfl)) ?_)) | exact .iface _ _ (.v _) | exact .iface _ _ (.agg _ (by repeat (first | exact pu_bytes _ | exact pu_nil | exact pu_vs rfl | exact pu_map (fun _ => .v _) _ | exact pu_vals _ | refine pu_app ?_ ?_ | refine pu_cons (by first | exact .v _ | exact .rd _ _ | exact .adr _ | exact .mp _ _ | exact .agg _ (pu_vs rfl)) ?_))))) (.v _) (.v _) (rfl)
set_option maxHeartbeats 4000000 in
theorem rBool_c (b : List UInt8) (hb : b.length ≤ 1099511627776) : Fun Try.prog 64 [rdB b] (· = rr (boolM b)) := by
  refine Fun.of Try.func64 rfl (Nat.le_of_ble_eq_true rfl) fun C => ?_
  refine WC.seq fun Fh1_ h1_ => ?_
  refine WC.region ?_
  refine RG.op _ _ rfl rfl (o_alloc (z_of Ty.inf41) rfl) ?_
  refine RG.op _ _ rfl rfl (o_assign (.v _) rfl) ?_
  refine RG.op _ _ rfl rfl (o_assign (.v _) rfl) ?_
  refine RG.nil (h1_ _ ?_)
  refine WC.seq fun Fh2_ h2_ => ?_
  refine WC.seq fun Fh3_ h3_ => ?_
  refine WC.region ?_
  refine RG.op _ _ rfl rfl (o_move (.rd _ _) rfl) ?_
  refine RG.op _ _ rfl rfl (o_len_rd rfl Try.underlying22) ?_
  refine RG.op _ _ rfl rfl (o_ltI rfl rfl) ?_
  refine RG.nil (h3_ _ ?_)
  refine WC.cond _ rfl (fun c1 => ?_) (fun c1 => ?_)
  ·
    have p1 := c1
    try simp only [decide_eq_true_eq, decide_eq_false_iff_not, Bool.and_eq_true, Bool.or_eq_true, Bool.not_eq_true', Bool.not_eq_false', Bool.and_eq_false_iff, Bool.or_eq_false_iff, beq_iff_eq, bne_iff_ne, beq_eq_false_iff_ne, bne_eq_false_iff_eq, Int.not_lt, Int.not_le, ne_eq, Decidable.not_not] at p1
    refine WC.seq fun Fh4_ h4_ => ?_
    refine WC.region ?_
    refine RG.op _ _ rfl rfl (o_build (cs := [B8 0, I64 0, S []]) Try.underlying41 Ty.inf41 (Ty.pl41 Try.underlying41) rfl) ?_
    refine RG.op _ _ rfl rfl (o_store (d := (.agg [_, _, _])) rfl rfl rfl rfl (sz_of Ty.inf41) (Nat.le_of_ble_eq_true rfl) rfl) ?_
    refine RG.op _ _ rfl rfl (o_assign (.v _) rfl) ?_
    refine RG.op _ _ rfl rfl (o_assign (.v _) rfl) ?_
    refine RG.nil (h4_ _ ?_)
    refine WC.ret ?_
    exact Ends.r3 rfl (.agg rfl Try.underlying41 rfl (sz_of Ty.inf41) rfl rfl rfl) (.tmp _ (.v _) rfl) (.tmp _ (.v _) rfl) (.pure' (by first | exact .v _ | exact .rd _ _ | exact .adr _ | exact .mp _ _ | exact .agg _ (by repeat (first | exact pu_bytes _ | exact pu_nil | exact pu_vs rfl | exact pu_map (fun _ => .v _) _ | exact pu_vals _ | refine pu_app ?_ ?_ | refine pu_cons (by first | exact .v _ | exact .rd _ _ | exact .adr _ | exact .mp _ _ | exact .agg _ (pu_vs rfl)) ?_)) | exact .tup _ (by repeat (first | exact pu_bytes _ | exact pu_nil | exact pu_vs rfl | exact pu_map (fun _ => .v _) _ | exact pu_vals _ | refine pu_app ?_ ?_ | refine pu_cons (by first | exact .v _ | exact .rd _ _ | exact .adr _ | exact .mp _ _ | exact .agg _ (pu_vs rfl)) ?_)) | exact .fn _ _ (by repeat (first | exact pu_bytes _ | exact pu_nil | exact pu_vs rfl | exact pu_map (fun _ => .v _) _ | exact pu_vals _ | refine pu_app ?_ ?_ | refine pu_cons (by first | exact .v _ | exact .rd _ _ | exact .adr _ | exact .mp _ _ | exact .agg _ (pu_vs rfl)) ?_)) | exact .iface _ _ (.v _) | exact .iface _ _ (.agg _ (by repeat (first | exact pu_bytes _ | exact pu_nil | exact pu_vs rfl | exact pu_map (fun _ => .v _) _ | exact pu_vals _ | refine pu_app ?_ ?_ | refine pu_cons (by first | exact .v _ | exact .rd _ _ | exact .adr _ | exact .mp _ _ | exact .agg _ (pu_vs rfl)) ?_))))) (.v _) (.v _) (by unfold boolM; rw [if_pos (by omega)]; rfl)
  ·
    have p1 := c1
    try simp only [decide_eq_true_eq, decide_eq_false_iff_not, Bool.and_eq_true, Bool.or_eq_true, Bool.not_eq_true', Bool.not_eq_false', Bool.and_eq_false_iff, Bool.or_eq_false_iff, beq_iff_eq, bne_iff_ne, beq_eq_false_iff_ne, bne_eq_false_iff_eq, Int.not_lt, Int.not_le, ne_eq, Decidable.not_not] at p1
    have h1 : 1 < b.length := by omega
    refine WC.skip (h2_ _ ?_)
    refine WC.seq fun Fh5_ h5_ => ?_
    refine WC.seq fun Fh6_ h6_ => ?_
    refine WC.region ?_
    refine RG.op _ _ rfl rfl (o_move (.rd _ _) rfl) ?_
    refine RG.op _ _ rfl rfl (o_ixn_M 1 rfl rfl Try.underlying22 (sz_of Ty.inf5) (by first | omega | exact ubyte _ | (simp only [bytesD_len, zeros_len, flatMap_len vc_len, List.length_append, List.length_take, List.length_drop, List.length_map, List.length_nil, List.length_cons, List.length_replicate, List.length_reverse, List.length_set, List.length_range, strB_size] <;> omega)) (by first | omega | exact ubyte _ | (simp only [bytesD_len, zeros_len, flatMap_len vc_len, List.length_append, List.length_take, List.length_drop, List.length_map, List.length_nil, List.length_cons, List.length_replicate, List.length_reverse, List.length_set, List.length_range, strB_size] <;> omega))) ?_
    refine RG.op _ _ rfl rfl (o_load_adr rfl Try.underlying5 rfl rfl) ?_
    refine RG.op _ _ rfl rfl (o_gtB (b := 1) rfl rfl) ?_
    refine RG.nil (h6_ _ ?_)
    refine WC.cond _ rfl (fun c3 => ?_) (fun c3 => ?_)
    ·
      have p3 := c3
      try simp only [decide_eq_true_eq, decide_eq_false_iff_not, Bool.and_eq_true, Bool.or_eq_true, Bool.not_eq_true', Bool.not_eq_false', Bool.and_eq_false_iff, Bool.or_eq_false_iff, beq_iff_eq, bne_iff_ne, beq_eq_false_iff_ne, bne_eq_false_iff_eq, Int.not_lt, Int.not_le, ne_eq, Decidable.not_not] at p3
      refine WC.seq fun Fh7_ h7_ => ?_
      refine WC.region ?_
      refine RG.op _ _ rfl rfl (o_build (cs := [B8 0, I64 0, S []]) Try.underlying41 Ty.inf41 (Ty.pl41 Try.underlying41) rfl) ?_
      refine RG.op _ _ rfl rfl (o_store (d := (.agg [_, _, _])) rfl rfl rfl rfl (sz_of Ty.inf41) (Nat.le_of_ble_eq_true rfl) rfl) ?_
      refine RG.op _ _ rfl rfl (o_assign (.v _) rfl) ?_
      refine RG.op _ _ rfl rfl (o_assign (.v _) rfl) ?_
      refine RG.nil (h7_ _ ?_)
      refine WC.ret ?_
      exact Ends.r3 rfl (.agg rfl Try.underlying41 rfl (sz_of Ty.inf41) rfl rfl rfl) (.tmp _ (.v _) rfl) (.tmp _ (.v _) rfl) (.pure' (by first | exact .v _ | exact .rd _ _ | exact .adr _ | exact .mp _ _ | exact .agg _ (by repeat (first | exact pu_bytes _ | exact pu_nil | exact pu_vs rfl | exact pu_map (fun _ => .v _) _ | exact pu_vals _ | refine pu_app ?_ ?_ | refine pu_cons (by first | exact .v _ | exact .rd _ _ | exact .adr _ | exact .mp _ _ | exact .agg _ (pu_vs rfl)) ?_)) | exact .tup _ (by repeat (first | exact pu_bytes _ | exact pu_nil | exact pu_vs rfl | exact pu_map (fun _ => .v _) _ | exact pu_vals _ | refine pu_app ?_ ?_ | refine pu_cons (by first | exact .v _ | exact .rd _ _ | exact .adr _ | exact .mp _ _ | exact .agg _ (pu_vs rfl)) ?_)) | exact .fn _ _ (by repeat (first | exact pu_bytes _ | exact pu_nil | exact pu_vs rfl | exact pu_map (fun _ => .v _) _ | exact pu_vals _ | refine pu_app ?_ ?_ | refine pu_cons (by first | exact .v _ | exact .rd _ _ | exact .adr _ | exact .mp _ _ | exact .agg _ (pu_vs rfl)) ?_)) | exact .iface _ _ (.v _) | exact .iface _ _ (.agg _ (by repeat (first | exact pu_bytes _ | exact pu_nil | exact pu_vs rfl | exact pu_map (fun _ => .v _) _ | exact pu_vals _ | refine pu_app ?_ ?_ | refine pu_cons (by first | exact .v _ | exact .rd _ _ | exact .adr _ | exact .mp _ _ | exact .agg _ (pu_vs rfl)) ?_))))) (.v _) (.v _) (by have e := (getD_at h1); unfold boolM; rw [if_neg (by omega), e, if_pos (by simpa using p3)]; rfl)
    ·
      have p3 := c3
      try simp only [decide_eq_true_eq, decide_eq_false_iff_not, Bool.and_eq_true, Bool.or_eq_true, Bool.not_eq_true', Bool.not_eq_false', Bool.and_eq_false_iff, Bool.or_eq_false_iff, beq_iff_eq, bne_iff_ne, beq_eq_false_iff_ne, bne_eq_false_iff_eq, Int.not_lt, Int.not_le, ne_eq, Decidable.not_not] at p3
      refine WC.skip (h5_ _ ?_)
      refine WC.seq fun Fh8_ h8_ => ?_
      refine WC.region ?_
      refine RG.op _ _ rfl rfl (o_move (.rd _ _) rfl) ?_
      refine RG.op _ _ rfl rfl (o_ixn_M 1 rfl rfl Try.underlying22 (sz_of Ty.inf5) (by first | omega | exact ubyte _ | (simp only [bytesD_len, zeros_len, flatMap_len vc_len, List.length_append, List.length_take, List.length_drop, List.length_map, List.length_nil, List.length_cons, List.length_replicate, List.length_reverse, List.length_set, List.length_range, strB_size] <;> omega)) (by first | omega | exact ubyte _ | (simp only [bytesD_len, zeros_len, flatMap_len vc_len, List.length_append, List.length_take, List.length_drop, List.length_map, List.length_nil, List.length_cons, List.length_replicate, List.length_reverse, List.length_set, List.length_range, strB_size] <;> omega))) ?_
      refine RG.op _ _ rfl rfl (o_load_adr rfl Try.underlying5 rfl rfl) ?_
      refine RG.op _ _ rfl rfl (o_BtoI rfl Try.underlying5 Try.underlying2) ?_
      refine RG.op _ _ rfl rfl (o_build (cs := [(B8 1), (.v _), S []]) Try.underlying41 Ty.inf41 (Ty.pl41 Try.underlying41) rfl) ?_
      refine RG.op _ _ rfl rfl (o_store (d := (.agg [_, _, _])) rfl rfl rfl rfl (sz_of Ty.inf41) (Nat.le_of_ble_eq_true rfl) rfl) ?_
      refine RG.op _ _ rfl rfl (o_assign (.v _) rfl) ?_
      refine RG.op _ _ rfl rfl (o_assign (.v _) rfl) ?_
      refine RG.nil (h8_ _ ?_)
      refine WC.ret ?_
      exact Ends.r3 rfl (.agg rfl Try.underlying41 rfl (sz_of Ty.inf41) rfl rfl rfl) (.tmp _ (.v _) rfl) (.tmp _ (.v _) rfl) (.pure' (by first | exact .v _ | exact .rd _ _ | exact .adr _ | exact .mp _ _ | exact .agg _ (by repeat (first | exact pu_bytes _ | exact pu_nil | exact pu_vs rfl | exact pu_map (fun _ => .v _) _ | exact pu_vals _ | refine pu_app ?_ ?_ | refine pu_cons (by first | exact .v _ | exact .rd _ _ | exact .adr _ | exact .mp _ _ | exact .agg _ (pu_vs rfl)) ?_)) | exact .tup _ (by repeat (first | exact pu_bytes _ | exact pu_nil | exact pu_vs rfl | exact pu_map (fun _ => .v _) _ | exact pu_vals _ | refine pu_app ?_ ?_ | refine pu_cons (by first | exact .v _ | exact .rd _ _ | exact .adr _ | exact .mp _ _ | exact .agg _ (pu_vs rfl)) ?_)) | exact .fn _ _ (by repeat (first | exact pu_bytes _ | exact pu_nil | exact pu_vs rfl | exact pu_map (fun _ => .v _) _ | exact pu_vals _ | refine pu_app ?_ ?_ | refine pu_cons (by first | exact .v _ | exact .rd _ _ | exact .adr _ | exact .mp _ _ | exact .agg _ (pu_vs rfl)) ?_)) | exact .iface _ _ (.v _) | exact .iface _ _ (.agg _ (by repeat (first | exact pu_bytes _ | exact pu_nil | exact pu_vs rfl | exact pu_map (fun _ => .v _) _ | exact pu_vals _ | refine pu_app ?_ ?_ | refine pu_cons (by first | exact .v _ | exact .rd _ _ | exact .adr _ | exact .mp _ _ | exact .agg _ (pu_vs rfl)) ?_))))) (.v _) (.v _) (by have e := (getD_at h1); unfold boolM; rw [if_neg (by omega), e, if_neg (by simpa using p3)]; rfl)
set_option maxHeartbeats 4000000 in
theorem rInt_c (b : List UInt8) (hb : b.length ≤ 1099511627776) : Fun Try.prog 65 [rdB b] (· = rr (intM b)) := by
  refine Fun.of Try.func65 rfl (Nat.le_of_ble_eq_true rfl) fun C => ?_
  refine WC.seq fun Fh1_ h1_ => ?_
  refine WC.region ?_
  refine RG.op _ _ rfl rfl (o_alloc (z_of Ty.inf41) rfl) ?_
  refine RG.op _ _ rfl rfl (o_assign (.v _) rfl) ?_
  refine RG.op _ _ rfl rfl (o_assign (.v _) rfl) ?_
  refine RG.nil (h1_ _ ?_)
  refine WC.seq fun Fh2_ h2_ => ?_
  refine WC.seq fun Fh3_ h3_ => ?_
  refine WC.region ?_
  refine RG.op _ _ rfl rfl (o_move (.rd _ _) rfl) ?_
  refine RG.op _ _ rfl rfl (o_len_rd rfl Try.underlying22) ?_
  refine RG.op _ _ rfl rfl (o_ltI rfl rfl) ?_
  refine RG.nil (h3_ _ ?_)
  refine WC.cond _ rfl (fun c1 => ?_) (fun c1 => ?_)
  ·
    have p1 := c1
    try simp only [decide_eq_true_eq, decide_eq_false_iff_not, Bool.and_eq_true, Bool.or_eq_true, Bool.not_eq_true', Bool.not_eq_false', Bool.and_eq_false_iff, Bool.or_eq_false_iff, beq_iff_eq, bne_iff_ne, beq_eq_false_iff_ne, bne_eq_false_iff_eq, Int.not_lt, Int.not_le, ne_eq, Decidable.not_not] at p1
    refine WC.seq fun Fh4_ h4_ => ?_
    refine WC.region ?_
    refine RG.op _ _ rfl rfl (o_build (cs := [B8 0, I64 0, S []]) Try.underlying41 Ty.inf41 (Ty.pl41 Try.underlying41) rfl) ?_
    refine RG.op _ _ rfl rfl (o_store (d := (.agg [_, _, _])) rfl rfl rfl rfl (sz_of Ty.inf41) (Nat.le_of_ble_eq_true rfl) rfl) ?_
    refine RG.op _ _ rfl rfl (o_assign (.v _) rfl) ?_
    refine RG.op _ _ rfl rfl (o_assign (.v _) rfl) ?_
    refine RG.nil (h4_ _ ?_)
    refine WC.ret ?_
    exact Ends.r3 rfl (.agg rfl Try.underlying41 rfl (sz_of Ty.inf41) rfl rfl rfl) (.tmp _ (.v _) rfl) (.tmp _ (.v _) rfl) (.pure' (by first | exact .v _ | exact .rd _ _ | exact .adr _ | exact .mp _ _ | exact .agg _ (by repeat (first | exact pu_bytes _ | exact pu_nil | exact pu_vs rfl | exact pu_map (fun _ => .v _) _ | exact pu_vals _ | refine pu_app ?_ ?_ | refine pu_cons (by first | exact .v _ | exact .rd _ _ | exact .adr _ | exact .mp _ _ | exact .agg _ (pu_vs rfl)) ?_)) | exact .tup _ (by repeat (first | exact pu_bytes _ | exact pu_nil | exact pu_vs rfl | exact pu_map (fun _ => .v _) _ | exact pu_vals _ | refine pu_app ?_ ?_ | refine pu_cons (by first | exact .v _ | exact .rd _ _ | exact .adr _ | exact .mp _ _ | exact .agg _ (pu_vs rfl)) ?_)) | exact .fn _ _ (by repeat (first | exact pu_bytes _ | exact pu_nil | exact pu_vs rfl | exact pu_map (fun _ => .v _) _ | exact pu_vals _ | refine pu_app ?_ ?_ | refine pu_cons (by first | exact .v _ | exact .rd _ _ | exact .adr _ | exact .mp _ _ | exact .agg _ (pu_vs rfl)) ?_)) | exact .iface _ _ (.v _) | exact .iface _ _ (.agg _ (by repeat (first | exact pu_bytes _ | exact pu_nil | exact pu_vs rfl | exact pu_map (fun _ => .v _) _ | exact pu_vals _ | refine pu_app ?_ ?_ | refine pu_cons (by first | exact .v _ | exact .rd _ _ | exact .adr _ | exact .mp _ _ | exact .agg _ (pu_vs rfl)) ?_))))) (.v _) (.v _) (by unfold intM; rw [if_pos (by omega)]; rfl)
  ·
    have p1 := c1
    try simp only [decide_eq_true_eq, decide_eq_false_iff_not, Bool.and_eq_true, Bool.or_eq_true, Bool.not_eq_true', Bool.not_eq_false', Bool.and_eq_false_iff, Bool.or_eq_false_iff, beq_iff_eq, bne_iff_ne, beq_eq_false_iff_ne, bne_eq_false_iff_eq, Int.not_lt, Int.not_le, ne_eq, Decidable.not_not] at p1
    refine WC.skip (h2_ _ ?_)
    refine WC.seq fun Fh5_ h5_ => ?_
    have h1 : ((b.drop 1).take 8).length = 8 := by rw [List.length_take, List.length_drop]; omega
    have h3 : ((b.drop 1).take (9 - 1)).length = 8 := h1
    refine WC.region ?_
    refine RG.op _ _ rfl rfl (o_assign (N64 0) rfl) ?_
    refine RG.nil (h5_ _ ?_)
    refine WC.seq fun Fh6_ h6_ => ?_
    refine WC.seq fun Fh7_ h7_ => ?_
    refine WC.region ?_
    refine RG.op _ _ rfl rfl (o_move (.rd _ _) rfl) ?_
    refine RG.op _ _ rfl rfl (o_partM 1 9 rfl rfl rfl Try.underlying22 (sz_of Ty.inf5) (by first | omega | exact ubyte _ | (simp only [bytesD_len, zeros_len, flatMap_len vc_len, List.length_append, List.length_take, List.length_drop, List.length_map, List.length_nil, List.length_cons, List.length_replicate, List.length_reverse, List.length_set, List.length_range, strB_size] <;> omega)) (by first | omega | exact ubyte _ | (simp only [bytesD_len, zeros_len, flatMap_len vc_len, List.length_append, List.length_take, List.length_drop, List.length_map, List.length_nil, List.length_cons, List.length_replicate, List.length_reverse, List.length_set, List.length_range, strB_size] <;> omega)) (by first | omega | exact ubyte _ | (simp only [bytesD_len, zeros_len, flatMap_len vc_len, List.length_append, List.length_take, List.length_drop, List.length_map, List.length_nil, List.length_cons, List.length_replicate, List.length_reverse, List.length_set, List.length_range, strB_size] <;> omega)) (by first | omega | exact ubyte _ | (simp only [bytesD_len, zeros_len, flatMap_len vc_len, List.length_append, List.length_take, List.length_drop, List.length_map, List.length_nil, List.length_cons, List.length_replicate, List.length_reverse, List.length_set, List.length_range, strB_size] <;> omega))) ?_
    refine RG.op _ _ rfl rfl (o_len_rd rfl Try.underlying22) ?_
    refine RG.op _ _ rfl rfl (o_move (.v _) rfl) ?_
    refine RG.nil (h7_ _ ?_)
    refine WC.block ?_
    refine WC.loopU [5, 7, 15, 16, 17, 18, 19, 20, 21, 22, 23, 24] (fun (k : Nat) => [(15, I64 ((k : Nat) : Int)), (5, N64 (numU (((b.drop 1).take 8).take k)))]) (fun (k : Nat) => []) (fun (k : Nat) => k ≤ 8) (fun (k : Nat) => 8 - k) 0 (by first | omega | exact ubyte _ | (simp only [bytesD_len, zeros_len, flatMap_len vc_len, List.length_append, List.length_take, List.length_drop, List.length_map, List.length_nil, List.length_cons, List.length_replicate, List.length_reverse, List.length_set, List.length_range, strB_size] <;> omega)) ?lpa8_ ?lpb9_
    case lpa8_ =>
      exact .mk' ⟨⟨rfl, .v _⟩, ⟨rfl, .v _⟩, trivial⟩ (same_refl _ _) (rfl) (by repeat (first | exact trivial | refine And.intro (Nat.le_refl _) ?_ | refine And.intro trivial ?_ | refine And.intro (by show _ ≤ _; (first | omega | (simp only [bytesD_len, zeros_len, flatMap_len vc_len, List.length_append, List.length_take, List.length_drop, List.length_map, List.length_nil, List.length_cons, List.length_replicate, List.length_reverse, List.length_set, List.length_range, strB_size] <;> omega))) ?_)) (by repeat (first | exact trivial | refine And.intro (okp (by repeat (first | exact pu_bytes _ | exact pu_nil | exact pu_vs rfl | exact pu_map (fun _ => .v _) _ | exact pu_vals _ | refine pu_app ?_ ?_ | refine pu_cons (by first | exact .v _ | exact .rd _ _ | exact .adr _ | exact .mp _ _ | exact .agg _ (by repeat (first | exact pu_bytes _ | exact pu_nil | exact pu_vs rfl | exact pu_map (fun _ => .v _) _ | exact pu_vals _ | refine pu_app ?_ ?_ | refine pu_cons (by first | exact .v _ | exact .rd _ _ | exact .adr _ | exact .mp _ _ | exact .agg _ (pu_vs rfl)) ?_)) | exact .tup _ (by repeat (first | exact pu_bytes _ | exact pu_nil | exact pu_vs rfl | exact pu_map (fun _ => .v _) _ | exact pu_vals _ | refine pu_app ?_ ?_ | refine pu_cons (by first | exact .v _ | exact .rd _ _ | exact .adr _ | exact .mp _ _ | exact .agg _ (pu_vs rfl)) ?_)) | exact .fn _ _ (by repeat (first | exact pu_bytes _ | exact pu_nil | exact pu_vs rfl | exact pu_map (fun _ => .v _) _ | exact pu_vals _ | refine pu_app ?_ ?_ | refine pu_cons (by first | exact .v _ | exact .rd _ _ | exact .adr _ | exact .mp _ _ | exact .agg _ (pu_vs rfl)) ?_)) | exact .iface _ _ (.v _) | exact .iface _ _ (.agg _ (by repeat (first | exact pu_bytes _ | exact pu_nil | exact pu_vs rfl | exact pu_map (fun _ => .v _) _ | exact pu_vals _ | refine pu_app ?_ ?_ | refine pu_cons (by first | exact .v _ | exact .rd _ _ | exact .adr _ | exact .mp _ _ | exact .agg _ (pu_vs rfl)) ?_)))) ?_))) ?_))
    case lpb9_ =>
      rintro k hI
      refine WC.seq fun Fh10_ h10_ => ?_
      refine WC.region ?_
      refine RG.op _ _ rfl rfl (o_ltI rfl rfl) ?_
      refine RG.nil (h10_ _ ?_)
      refine WC.seq fun Fh11_ h11_ => ?_
      refine WC.cond _ rfl (fun c5 => ?_) (fun c5 => ?_)
      ·
        have p5 := c5
        try simp only [decide_eq_true_eq, decide_eq_false_iff_not, Bool.and_eq_true, Bool.or_eq_true, Bool.not_eq_true', Bool.not_eq_false', Bool.and_eq_false_iff, Bool.or_eq_false_iff, beq_iff_eq, bne_iff_ne, beq_eq_false_iff_ne, bne_eq_false_iff_eq, Int.not_lt, Int.not_le, ne_eq, Decidable.not_not] at p5
        have hk : k < ((b.drop 1).take 8).length := by omega
        have h7 := num_lt7 ((b.drop 1).take 8) k (by omega) (by omega)
        refine WC.skip (h11_ _ ?_)
        refine WC.seq fun Fh12_ h12_ => ?_
        refine WC.block ?_
        refine WC.seq fun Fh13_ h13_ => ?_
        refine WC.region ?_
        refine RG.op _ _ rfl rfl (o_ixn_M k rfl rfl Try.underlying22 (sz_of Ty.inf5) (by first | omega | exact ubyte _ | (simp only [bytesD_len, zeros_len, flatMap_len vc_len, List.length_append, List.length_take, List.length_drop, List.length_map, List.length_nil, List.length_cons, List.length_replicate, List.length_reverse, List.length_set, List.length_range, strB_size] <;> omega)) (by first | omega | exact ubyte _ | (simp only [bytesD_len, zeros_len, flatMap_len vc_len, List.length_append, List.length_take, List.length_drop, List.length_map, List.length_nil, List.length_cons, List.length_replicate, List.length_reverse, List.length_set, List.length_range, strB_size] <;> omega))) ?_
        refine RG.op _ _ rfl rfl (o_load_adr rfl Try.underlying5 rfl rfl) ?_
        refine RG.op _ _ rfl rfl (o_assign (.v _) rfl) ?_
        refine RG.nil (h13_ _ ?_)
        refine WC.region ?_
        refine RG.op _ _ rfl rfl (o_move (.v _) rfl) ?_
        refine RG.op _ _ rfl rfl (o_shlU (n := 8) rfl rfl (by first | omega | exact ubyte _ | (simp only [bytesD_len, zeros_len, flatMap_len vc_len, List.length_append, List.length_take, List.length_drop, List.length_map, List.length_nil, List.length_cons, List.length_replicate, List.length_reverse, List.length_set, List.length_range, strB_size] <;> omega))) ?_
        refine RG.op _ _ rfl rfl (o_move (.v _) rfl) ?_
        refine RG.op _ _ rfl rfl (o_BtoU rfl Try.underlying5 Try.underlying74) ?_
        refine RG.op _ _ rfl rfl (o_orU rfl rfl (by first | omega | exact ubyte _ | (simp only [bytesD_len, zeros_len, flatMap_len vc_len, List.length_append, List.length_take, List.length_drop, List.length_map, List.length_nil, List.length_cons, List.length_replicate, List.length_reverse, List.length_set, List.length_range, strB_size] <;> omega)) (by first | omega | exact ubyte _ | (simp only [bytesD_len, zeros_len, flatMap_len vc_len, List.length_append, List.length_take, List.length_drop, List.length_map, List.length_nil, List.length_cons, List.length_replicate, List.length_reverse, List.length_set, List.length_range, strB_size] <;> omega))) ?_
        refine RG.op _ _ rfl rfl (o_assign (.v _) rfl) ?_
        refine RG.nil (h12_ _ ?_)
        refine WC.region ?_
        refine RG.op _ _ rfl rfl (o_add rfl rfl (by first | omega | exact ubyte _ | (simp only [bytesD_len, zeros_len, flatMap_len vc_len, List.length_append, List.length_take, List.length_drop, List.length_map, List.length_nil, List.length_cons, List.length_replicate, List.length_reverse, List.length_set, List.length_range, strB_size] <;> omega)) (by first | omega | exact ubyte _ | (simp only [bytesD_len, zeros_len, flatMap_len vc_len, List.length_append, List.length_take, List.length_drop, List.length_map, List.length_nil, List.length_cons, List.length_replicate, List.length_reverse, List.length_set, List.length_range, strB_size] <;> omega))) ?_
        refine RG.op _ _ rfl rfl (o_move (.v _) rfl) ?_
        refine RG.nil (Exists.intro (k + 1) ⟨by first | omega | (simp only [bytesD_len, zeros_len, flatMap_len vc_len, List.length_append, List.length_take, List.length_drop, List.length_map, List.length_nil, List.length_cons, List.length_replicate, List.length_reverse, List.length_set, List.length_range, strB_size] <;> omega), by first | omega | (simp only [bytesD_len, zeros_len, flatMap_len vc_len, List.length_append, List.length_take, List.length_drop, List.length_map, List.length_nil, List.length_cons, List.length_replicate, List.length_reverse, List.length_set, List.length_range, strB_size] <;> omega), ?_⟩)
        exact .mk' ⟨⟨rfl, .v _⟩, ⟨congrArg N64 (by rw [num_step hk, or_byte (num_lt7 _ _ (by omega) (by omega)) (UInt8.toNat_lt _)]), .v _⟩, trivial⟩ (by repeat (first | with_reducible exact same_refl _ _ | with_reducible refine same_updO (by with_unfolding_all exact rfl) ?_ | with_reducible refine same_updN ?_ | with_reducible refine same_updL (by with_unfolding_all exact rfl) ?_ | with_reducible refine same_forget (by with_unfolding_all exact rfl) ?_)) (rfl) (by repeat (first | exact trivial | refine And.intro (Nat.le_refl _) ?_ | refine And.intro trivial ?_ | refine And.intro (by show _ ≤ _; (first | omega | (simp only [bytesD_len, zeros_len, flatMap_len vc_len, List.length_append, List.length_take, List.length_drop, List.length_map, List.length_nil, List.length_cons, List.length_replicate, List.length_reverse, List.length_set, List.length_range, strB_size] <;> omega))) ?_)) (by repeat (first | exact trivial | refine And.intro (okp (by repeat (first | exact pu_bytes _ | exact pu_nil | exact pu_vs rfl | exact pu_map (fun _ => .v _) _ | exact pu_vals _ | refine pu_app ?_ ?_ | refine pu_cons (by first | exact .v _ | exact .rd _ _ | exact .adr _ | exact .mp _ _ | exact .agg _ (by repeat (first | exact pu_bytes _ | exact pu_nil | exact pu_vs rfl | exact pu_map (fun _ => .v _) _ | exact pu_vals _ | refine pu_app ?_ ?_ | refine pu_cons (by first | exact .v _ | exact .rd _ _ | exact .adr _ | exact .mp _ _ | exact .agg _ (pu_vs rfl)) ?_)) | exact .tup _ (by repeat (first | exact pu_bytes _ | exact pu_nil | exact pu_vs rfl | exact pu_map (fun _ => .v _) _ | exact pu_vals _ | refine pu_app ?_ ?_ | refine pu_cons (by first | exact .v _ | exact .rd _ _ | exact .adr _ | exact .mp _ _ | exact .agg _ (pu_vs rfl)) ?_)) | exact .fn _ _ (by repeat (first | exact pu_bytes _ | exact pu_nil | exact pu_vs rfl | exact pu_map (fun _ => .v _) _ | exact pu_vals _ | refine pu_app ?_ ?_ | refine pu_cons (by first | exact .v _ | exact .rd _ _ | exact .adr _ | exact .mp _ _ | exact .agg _ (pu_vs rfl)) ?_)) | exact .iface _ _ (.v _) | exact .iface _ _ (.agg _ (by repeat (first | exact pu_bytes _ | exact pu_nil | exact pu_vs rfl | exact pu_map (fun _ => .v _) _ | exact pu_vals _ | refine pu_app ?_ ?_ | refine pu_cons (by first | exact .v _ | exact .rd _ _ | exact .adr _ | exact .mp _ _ | exact .agg _ (pu_vs rfl)) ?_)))) ?_))) ?_))
      ·
        have p5 := c5
        try simp only [decide_eq_true_eq, decide_eq_false_iff_not, Bool.and_eq_true, Bool.or_eq_true, Bool.not_eq_true', Bool.not_eq_false', Bool.and_eq_false_iff, Bool.or_eq_false_iff, beq_iff_eq, bne_iff_ne, beq_eq_false_iff_ne, bne_eq_false_iff_eq, Int.not_lt, Int.not_le, ne_eq, Decidable.not_not] at p5
        refine WC.exit (h6_ _ ?_)
        refine WC.seq fun Fh14_ h14_ => ?_
        have h8 := num_lt8 ((b.drop 1).take 8) k (by omega) (by omega)
        obtain rfl : k = 8 := by omega
        have hx : numU (((b.drop 1).take 8).take 8) ^^^ 9223372036854775808 ≤ 18446744073709551615 := by rw [xor_top _ (by omega)]; omega
        refine WC.region ?_
        refine RG.op _ _ rfl rfl (o_move (.v _) rfl) ?_
        refine RG.op _ _ rfl rfl (o_xorU (b := 9223372036854775808) rfl rfl (by first | omega | exact ubyte _ | (simp only [bytesD_len, zeros_len, flatMap_len vc_len, List.length_append, List.length_take, List.length_drop, List.length_map, List.length_nil, List.length_cons, List.length_replicate, List.length_reverse, List.length_set, List.length_range, strB_size] <;> omega)) (by first | omega | exact ubyte _ | (simp only [bytesD_len, zeros_len, flatMap_len vc_len, List.length_append, List.length_take, List.length_drop, List.length_map, List.length_nil, List.length_cons, List.length_replicate, List.length_reverse, List.length_set, List.length_range, strB_size] <;> omega))) ?_
        refine RG.op _ _ rfl rfl (o_UtoI64 rfl (by first | omega | exact ubyte _ | (simp only [bytesD_len, zeros_len, flatMap_len vc_len, List.length_append, List.length_take, List.length_drop, List.length_map, List.length_nil, List.length_cons, List.length_replicate, List.length_reverse, List.length_set, List.length_range, strB_size] <;> omega)) Try.underlying74 Try.underlying2) ?_
        refine RG.op _ _ rfl rfl (o_build (cs := [(B8 2), (.v _), S []]) Try.underlying41 Ty.inf41 (Ty.pl41 Try.underlying41) rfl) ?_
        refine RG.op _ _ rfl rfl (o_store (d := (.agg [_, _, _])) rfl rfl rfl rfl (sz_of Ty.inf41) (Nat.le_of_ble_eq_true rfl) rfl) ?_
        refine RG.op _ _ rfl rfl (o_assign (.v _) rfl) ?_
        refine RG.op _ _ rfl rfl (o_assign (.v _) rfl) ?_
        refine RG.nil (h14_ _ ?_)
        refine WC.ret ?_
        exact Ends.r3 rfl (.agg rfl Try.underlying41 rfl (sz_of Ty.inf41) rfl rfl rfl) (.tmp _ (.v _) rfl) (.tmp _ (.v _) rfl) (.pure' (by first | exact .v _ | exact .rd _ _ | exact .adr _ | exact .mp _ _ | exact .agg _ (by repeat (first | exact pu_bytes _ | exact pu_nil | exact pu_vs rfl | exact pu_map (fun _ => .v _) _ | exact pu_vals _ | refine pu_app ?_ ?_ | refine pu_cons (by first | exact .v _ | exact .rd _ _ | exact .adr _ | exact .mp _ _ | exact .agg _ (pu_vs rfl)) ?_)) | exact .tup _ (by repeat (first | exact pu_bytes _ | exact pu_nil | exact pu_vs rfl | exact pu_map (fun _ => .v _) _ | exact pu_vals _ | refine pu_app ?_ ?_ | refine pu_cons (by first | exact .v _ | exact .rd _ _ | exact .adr _ | exact .mp _ _ | exact .agg _ (pu_vs rfl)) ?_)) | exact .fn _ _ (by repeat (first | exact pu_bytes _ | exact pu_nil | exact pu_vs rfl | exact pu_map (fun _ => .v _) _ | exact pu_vals _ | refine pu_app ?_ ?_ | refine pu_cons (by first | exact .v _ | exact .rd _ _ | exact .adr _ | exact .mp _ _ | exact .agg _ (pu_vs rfl)) ?_)) | exact .iface _ _ (.v _) | exact .iface _ _ (.agg _ (by repeat (first | exact pu_bytes _ | exact pu_nil | exact pu_vs rfl | exact pu_map (fun _ => .v _) _ | exact pu_vals _ | refine pu_app ?_ ?_ | refine pu_cons (by first | exact .v _ | exact .rd _ _ | exact .adr _ | exact .mp _ _ | exact .agg _ (pu_vs rfl)) ?_))))) (.v _) (.v _) (by unfold intM; rw [if_neg (by omega)]; exact rr_eq (v := ⟨2, sgn (numU (((b.drop 1).take 8).take 8) ^^^ 9223372036854775808), []⟩) (by rw [xor_top _ (by omega), List.take_of_length_le (by omega : ((b.drop 1).take 8).length ≤ 8)]; rfl) rfl)
set_option maxHeartbeats 4000000 in
theorem rText_c (b : List UInt8) (h0 : 0 < b.length) (hb : b.length ≤ 1099511627776) : Fun Try.prog 66 [rdB b] (· = rr (textR b)) := by
  refine Fun.of Try.func66 rfl (Nat.le_of_ble_eq_true rfl) fun C => ?_
  refine WC.seq fun Fh1_ h1_ => ?_
  refine WC.region ?_
  refine RG.op _ _ rfl rfl (o_alloc (z_of Ty.inf41) rfl) ?_
  refine RG.op _ _ rfl rfl (o_assign (.v _) rfl) ?_
  refine RG.op _ _ rfl rfl (o_assign (.v _) rfl) ?_
  refine RG.nil (h1_ _ ?_)
  refine WC.scope ?_
  refine WC.seq fun Fh2_ h2_ => ?_
  refine WC.region ?_
  refine RG.op _ _ rfl rfl (o_makeT 0 0 16 rfl rfl Try.underlying22 Ty.inf5 rfl rfl (by first | omega | exact ubyte _ | (simp only [bytesD_len, zeros_len, flatMap_len vc_len, List.length_append, List.length_take, List.length_drop, List.length_map, List.length_nil, List.length_cons, List.length_replicate, List.length_reverse, List.length_set, List.length_range, strB_size] <;> omega)) (by first | omega | exact ubyte _ | (simp only [bytesD_len, zeros_len, flatMap_len vc_len, List.length_append, List.length_take, List.length_drop, List.length_map, List.length_nil, List.length_cons, List.length_replicate, List.length_reverse, List.length_set, List.length_range, strB_size] <;> omega)) (by first | omega | exact ubyte _ | (simp only [bytesD_len, zeros_len, flatMap_len vc_len, List.length_append, List.length_take, List.length_drop, List.length_map, List.length_nil, List.length_cons, List.length_replicate, List.length_reverse, List.length_set, List.length_range, strB_size] <;> omega)) (by first | omega | exact ubyte _ | (simp only [bytesD_len, zeros_len, flatMap_len vc_len, List.length_append, List.length_take, List.length_drop, List.length_map, List.length_nil, List.length_cons, List.length_replicate, List.length_reverse, List.length_set, List.length_range, strB_size] <;> omega)) (by first | omega | exact ubyte _ | (simp only [bytesD_len, zeros_len, flatMap_len vc_len, List.length_append, List.length_take, List.length_drop, List.length_map, List.length_nil, List.length_cons, List.length_replicate, List.length_reverse, List.length_set, List.length_range, strB_size] <;> omega))) ?_
  refine RG.op _ _ rfl rfl (o_assign (.own _ _ _ _ _) rfl) ?_
  refine RG.nil (h2_ _ ?_)
  refine WC.seq fun Fh3_ h3_ => ?_
  refine WC.region ?_
  refine RG.op _ _ rfl rfl (o_assign (.v _) rfl) ?_
  refine RG.nil (h3_ _ ?_)
  refine WC.seq fun Fh4_ h4_ => ?_
  refine WC.label (h4_ _ ?_)
  refine WC.seq fun Fh5_ h5_ => ?_
  refine WC.block ?_
  refine WC.loopU [3, 4, 5, 6, 7, 9, 10, 11, 12, 13, 14, 15, 16, 17, 18, 19, 20, 21, 22, 23, 24, 25, 26, 27, 28, 29, 30, 31, 32, 33, 34, 35, 36, 37, 38, 39, 40, 41, 42, 43, 44, 45, 46, 47] (fun (p : List UInt8 × Nat) => [(6, I64 ((p.2 : Nat) : Int)), (5, ow 1 p.1.length 1)]) (fun (p : List UInt8 × Nat) => [(1, tb 5 p.1.length (bytesD p.1))]) (fun (p : List UInt8 × Nat) => p.2 ≤ b.length ∧ 1 ≤ p.2 ∧ p.1.length ≤ p.2 ∧ textM (b.drop 1) = addT p.1 (p.2 - 1) (textM (b.drop p.2))) (fun (p : List UInt8 × Nat) => b.length - p.2) ([], 1) ⟨h0, Nat.le_refl _, Nat.zero_le _, by cases textM (b.drop 1) <;> simp [addT, Except.map]⟩ ?lpa6_ ?lpb7_
  case lpa6_ =>
    exact .mk' ⟨⟨rfl, .v _⟩, ⟨ow_eq (by simp), (by first | exact .own _ _ _ _ _ (Nat.le_refl _) | exact .ptr _ _ _ (Nat.le_refl _) | exact .omp _ _ (Nat.le_refl _))⟩, trivial⟩ (same_refl _ _) (congrArg (fun c => [some _, c]) (tb_eq rfl (by simp [zeros, bytesD]))) (by repeat (first | exact trivial | refine And.intro (Nat.le_refl _) ?_ | refine And.intro trivial ?_ | refine And.intro (by show _ ≤ _; (first | omega | (simp only [bytesD_len, zeros_len, flatMap_len vc_len, List.length_append, List.length_take, List.length_drop, List.length_map, List.length_nil, List.length_cons, List.length_replicate, List.length_reverse, List.length_set, List.length_range, strB_size] <;> omega))) ?_)) (by repeat (first | exact trivial | refine And.intro (okp (by repeat (first | exact pu_bytes _ | exact pu_nil | exact pu_vs rfl | exact pu_map (fun _ => .v _) _ | exact pu_vals _ | refine pu_app ?_ ?_ | refine pu_cons (by first | exact .v _ | exact .rd _ _ | exact .adr _ | exact .mp _ _ | exact .agg _ (by repeat (first | exact pu_bytes _ | exact pu_nil | exact pu_vs rfl | exact pu_map (fun _ => .v _) _ | exact pu_vals _ | refine pu_app ?_ ?_ | refine pu_cons (by first | exact .v _ | exact .rd _ _ | exact .adr _ | exact .mp _ _ | exact .agg _ (pu_vs rfl)) ?_)) | exact .tup _ (by repeat (first | exact pu_bytes _ | exact pu_nil | exact pu_vs rfl | exact pu_map (fun _ => .v _) _ | exact pu_vals _ | refine pu_app ?_ ?_ | refine pu_cons (by first | exact .v _ | exact .rd _ _ | exact .adr _ | exact .mp _ _ | exact .agg _ (pu_vs rfl)) ?_)) | exact .fn _ _ (by repeat (first | exact pu_bytes _ | exact pu_nil | exact pu_vs rfl | exact pu_map (fun _ => .v _) _ | exact pu_vals _ | refine pu_app ?_ ?_ | refine pu_cons (by first | exact .v _ | exact .rd _ _ | exact .adr _ | exact .mp _ _ | exact .agg _ (pu_vs rfl)) ?_)) | exact .iface _ _ (.v _) | exact .iface _ _ (.agg _ (by repeat (first | exact pu_bytes _ | exact pu_nil | exact pu_vs rfl | exact pu_map (fun _ => .v _) _ | exact pu_vals _ | refine pu_app ?_ ?_ | refine pu_cons (by first | exact .v _ | exact .rd _ _ | exact .adr _ | exact .mp _ _ | exact .agg _ (pu_vs rfl)) ?_)))) ?_))) ?_))
  case lpb7_ =>
    rintro p hI
    obtain ⟨hp1, hp2, hp3, hp4⟩ := id hI
    refine WC.seq fun Fh8_ h8_ => ?_
    refine WC.seq fun Fh9_ h9_ => ?_
    refine WC.region ?_
    refine RG.op _ _ rfl rfl (o_move (.v _) rfl) ?_
    refine RG.op _ _ rfl rfl (o_move (.rd _ _) rfl) ?_
    refine RG.op _ _ rfl rfl (o_len_rd rfl Try.underlying22) ?_
    refine RG.op _ _ rfl rfl (o_ltI rfl rfl) ?_
    refine RG.nil (h9_ _ ?_)
    refine WC.cond _ rfl (fun c3 => ?_) (fun c3 => ?_)
    ·
      have p3 := c3
      try simp only [decide_eq_true_eq, decide_eq_false_iff_not, Bool.and_eq_true, Bool.or_eq_true, Bool.not_eq_true', Bool.not_eq_false', Bool.and_eq_false_iff, Bool.or_eq_false_iff, beq_iff_eq, bne_iff_ne, beq_eq_false_iff_ne, bne_eq_false_iff_eq, Int.not_lt, Int.not_le, ne_eq, Decidable.not_not] at p3
      have hlt : p.2 < b.length := by omega
      refine WC.skip (h8_ _ ?_)
      refine WC.block ?_
      refine WC.seq fun Fh10_ h10_ => ?_
      refine WC.region ?_
      refine RG.op _ _ rfl rfl (o_move (.rd _ _) rfl) ?_
      refine RG.op _ _ rfl rfl (o_move (.v _) rfl) ?_
      refine RG.op _ _ rfl rfl (o_ixn_M p.2 rfl rfl Try.underlying22 (sz_of Ty.inf5) (by first | omega | exact ubyte _ | (simp only [bytesD_len, zeros_len, flatMap_len vc_len, List.length_append, List.length_take, List.length_drop, List.length_map, List.length_nil, List.length_cons, List.length_replicate, List.length_reverse, List.length_set, List.length_range, strB_size] <;> omega)) (by first | omega | exact ubyte _ | (simp only [bytesD_len, zeros_len, flatMap_len vc_len, List.length_append, List.length_take, List.length_drop, List.length_map, List.length_nil, List.length_cons, List.length_replicate, List.length_reverse, List.length_set, List.length_range, strB_size] <;> omega))) ?_
      refine RG.op _ _ rfl rfl (o_load_adr rfl Try.underlying5 rfl rfl) ?_
      refine RG.op _ _ rfl rfl (o_assign (.v _) rfl) ?_
      refine RG.nil (h10_ _ ?_)
      refine WC.seq fun Fh11_ h11_ => ?_
      refine WC.region ?_
      refine RG.op _ _ rfl rfl (o_move (.v _) rfl) ?_
      refine RG.op _ _ rfl rfl (o_add rfl rfl (by first | omega | exact ubyte _ | (simp only [bytesD_len, zeros_len, flatMap_len vc_len, List.length_append, List.length_take, List.length_drop, List.length_map, List.length_nil, List.length_cons, List.length_replicate, List.length_reverse, List.length_set, List.length_range, strB_size] <;> omega)) (by first | omega | exact ubyte _ | (simp only [bytesD_len, zeros_len, flatMap_len vc_len, List.length_append, List.length_take, List.length_drop, List.length_map, List.length_nil, List.length_cons, List.length_replicate, List.length_reverse, List.length_set, List.length_range, strB_size] <;> omega))) ?_
      refine RG.op _ _ rfl rfl (o_assign (.v _) rfl) ?_
      refine RG.nil (h11_ _ ?_)
      refine WC.seq fun Fh12_ h12_ => ?_
      refine WC.seq fun Fh13_ h13_ => ?_
      refine WC.region ?_
      refine RG.op _ _ rfl rfl (o_move (.v _) rfl) ?_
      refine RG.op _ _ rfl rfl (o_neB (b := 0) rfl rfl) ?_
      refine RG.nil (h13_ _ ?_)
      refine WC.cond _ rfl (fun c6 => ?_) (fun c6 => ?_)
      ·
        have p6 := c6
        try simp only [decide_eq_true_eq, decide_eq_false_iff_not, Bool.and_eq_true, Bool.or_eq_true, Bool.not_eq_true', Bool.not_eq_false', Bool.and_eq_false_iff, Bool.or_eq_false_iff, beq_iff_eq, bne_iff_ne, beq_eq_false_iff_ne, bne_eq_false_iff_eq, Int.not_lt, Int.not_le, ne_eq, Decidable.not_not] at p6
        refine WC.seq fun Fh14_ h14_ => ?_
        refine WC.region ?_
        refine RG.op _ _ rfl rfl (o_move (.own _ _ _ _ _) rfl) ?_
        refine RG.op _ _ rfl rfl (o_move (.v _) rfl) ?_
        refine RG.op _ _ rfl rfl (o_litP (cs := [(.v _)]) Try.underlying22 Ty.inf5 rfl rfl rfl rfl (by repeat (first | exact pu_bytes _ | exact pu_nil | exact pu_vs rfl | exact pu_map (fun _ => .v _) _ | exact pu_vals _ | refine pu_app ?_ ?_ | refine pu_cons (by first | exact .v _ | exact .rd _ _ | exact .adr _ | exact .mp _ _ | exact .agg _ (by repeat (first | exact pu_bytes _ | exact pu_nil | exact pu_vs rfl | exact pu_map (fun _ => .v _) _ | exact pu_vals _ | refine pu_app ?_ ?_ | refine pu_cons (by first | exact .v _ | exact .rd _ _ | exact .adr _ | exact .mp _ _ | exact .agg _ (pu_vs rfl)) ?_)) | exact .tup _ (by repeat (first | exact pu_bytes _ | exact pu_nil | exact pu_vs rfl | exact pu_map (fun _ => .v _) _ | exact pu_vals _ | refine pu_app ?_ ?_ | refine pu_cons (by first | exact .v _ | exact .rd _ _ | exact .adr _ | exact .mp _ _ | exact .agg _ (pu_vs rfl)) ?_)) | exact .fn _ _ (by repeat (first | exact pu_bytes _ | exact pu_nil | exact pu_vs rfl | exact pu_map (fun _ => .v _) _ | exact pu_vals _ | refine pu_app ?_ ?_ | refine pu_cons (by first | exact .v _ | exact .rd _ _ | exact .adr _ | exact .mp _ _ | exact .agg _ (pu_vs rfl)) ?_)) | exact .iface _ _ (.v _) | exact .iface _ _ (.agg _ (by repeat (first | exact pu_bytes _ | exact pu_nil | exact pu_vs rfl | exact pu_map (fun _ => .v _) _ | exact pu_vals _ | refine pu_app ?_ ?_ | refine pu_cons (by first | exact .v _ | exact .rd _ _ | exact .adr _ | exact .mp _ _ | exact .agg _ (pu_vs rfl)) ?_)))) ?_))) ?_
        refine RG.op _ _ rfl rfl (o_appT (Elem.of Try.underlying22 Ty.inf5 rfl (by decide)) rfl rfl rfl (by first | omega | exact ubyte _ | (simp only [bytesD_len, zeros_len, flatMap_len vc_len, List.length_append, List.length_take, List.length_drop, List.length_map, List.length_nil, List.length_cons, List.length_replicate, List.length_reverse, List.length_set, List.length_range, strB_size] <;> omega)) (by first | omega | exact ubyte _ | (simp only [bytesD_len, zeros_len, flatMap_len vc_len, List.length_append, List.length_take, List.length_drop, List.length_map, List.length_nil, List.length_cons, List.length_replicate, List.length_reverse, List.length_set, List.length_range, strB_size] <;> omega)) (by repeat (first | exact bytesD_one _ | exact one_nil | exact one_map (fun _ => rfl) _ | exact one_vals _ | refine one_app ?_ ?_ | refine one_cons rfl ?_)) (by first | omega | exact ubyte _ | (simp only [bytesD_len, zeros_len, flatMap_len vc_len, List.length_append, List.length_take, List.length_drop, List.length_map, List.length_nil, List.length_cons, List.length_replicate, List.length_reverse, List.length_set, List.length_range, strB_size] <;> omega)) (by first | omega | exact ubyte _ | (simp only [bytesD_len, zeros_len, flatMap_len vc_len, List.length_append, List.length_take, List.length_drop, List.length_map, List.length_nil, List.length_cons, List.length_replicate, List.length_reverse, List.length_set, List.length_range, strB_size] <;> omega))) ?_
        refine RG.op _ _ rfl rfl (o_assign (.own _ _ _ _ _) rfl) ?_
        refine RG.nil (h14_ _ ?_)
        refine WC.exit (Exists.intro ((p.1 ++ [b[p.2]], p.2 + 1)) ⟨⟨by show _ ≤ _; omega, by show _ ≤ _; omega, by simp; omega, by rw [hp4, text_a hlt p6, addT_addT]; congr 1; omega⟩, by first | omega | (simp only [bytesD_len, zeros_len, flatMap_len vc_len, List.length_append, List.length_take, List.length_drop, List.length_map, List.length_nil, List.length_cons, List.length_replicate, List.length_reverse, List.length_set, List.length_range, strB_size] <;> omega), ?_⟩)
        exact .mk' ⟨⟨rfl, .v _⟩, ⟨ow_eq (by simp), (by first | exact .own _ _ _ _ _ (Nat.le_refl _) | exact .ptr _ _ _ (Nat.le_refl _) | exact .omp _ _ (Nat.le_refl _))⟩, trivial⟩ (by repeat (first | with_reducible exact same_refl _ _ | with_reducible refine same_updO (by with_unfolding_all exact rfl) ?_ | with_reducible refine same_updN ?_ | with_reducible refine same_updL (by with_unfolding_all exact rfl) ?_ | with_reducible refine same_forget (by with_unfolding_all exact rfl) ?_)) (congrArg (fun c => [some _, c]) (tb_eq (by simp) (by simp [bytesD]))) (by repeat (first | exact trivial | refine And.intro (Nat.le_refl _) ?_ | refine And.intro trivial ?_ | refine And.intro (by show _ ≤ _; (first | omega | (simp only [bytesD_len, zeros_len, flatMap_len vc_len, List.length_append, List.length_take, List.length_drop, List.length_map, List.length_nil, List.length_cons, List.length_replicate, List.length_reverse, List.length_set, List.length_range, strB_size] <;> omega))) ?_)) (by repeat (first | exact trivial | refine And.intro (okp (by repeat (first | exact pu_bytes _ | exact pu_nil | exact pu_vs rfl | exact pu_map (fun _ => .v _) _ | exact pu_vals _ | refine pu_app ?_ ?_ | refine pu_cons (by first | exact .v _ | exact .rd _ _ | exact .adr _ | exact .mp _ _ | exact .agg _ (by repeat (first | exact pu_bytes _ | exact pu_nil | exact pu_vs rfl | exact pu_map (fun _ => .v _) _ | exact pu_vals _ | refine pu_app ?_ ?_ | refine pu_cons (by first | exact .v _ | exact .rd _ _ | exact .adr _ | exact .mp _ _ | exact .agg _ (pu_vs rfl)) ?_)) | exact .tup _ (by repeat (first | exact pu_bytes _ | exact pu_nil | exact pu_vs rfl | exact pu_map (fun _ => .v _) _ | exact pu_vals _ | refine pu_app ?_ ?_ | refine pu_cons (by first | exact .v _ | exact .rd _ _ | exact .adr _ | exact .mp _ _ | exact .agg _ (pu_vs rfl)) ?_)) | exact .fn _ _ (by repeat (first | exact pu_bytes _ | exact pu_nil | exact pu_vs rfl | exact pu_map (fun _ => .v _) _ | exact pu_vals _ | refine pu_app ?_ ?_ | refine pu_cons (by first | exact .v _ | exact .rd _ _ | exact .adr _ | exact .mp _ _ | exact .agg _ (pu_vs rfl)) ?_)) | exact .iface _ _ (.v _) | exact .iface _ _ (.agg _ (by repeat (first | exact pu_bytes _ | exact pu_nil | exact pu_vs rfl | exact pu_map (fun _ => .v _) _ | exact pu_vals _ | refine pu_app ?_ ?_ | refine pu_cons (by first | exact .v _ | exact .rd _ _ | exact .adr _ | exact .mp _ _ | exact .agg _ (pu_vs rfl)) ?_)))) ?_))) ?_))
      ·
        have p6 := c6
        try simp only [decide_eq_true_eq, decide_eq_false_iff_not, Bool.and_eq_true, Bool.or_eq_true, Bool.not_eq_true', Bool.not_eq_false', Bool.and_eq_false_iff, Bool.or_eq_false_iff, beq_iff_eq, bne_iff_ne, beq_eq_false_iff_ne, bne_eq_false_iff_eq, Int.not_lt, Int.not_le, ne_eq, Decidable.not_not] at p6
        refine WC.skip (h12_ _ ?_)
        refine WC.seq fun Fh15_ h15_ => ?_
        refine WC.seq fun Fh16_ h16_ => ?_
        refine WC.region ?_
        refine RG.op _ _ rfl rfl (o_move (.v _) rfl) ?_
        refine RG.op _ _ rfl rfl (o_move (.rd _ _) rfl) ?_
        refine RG.op _ _ rfl rfl (o_len_rd rfl Try.underlying22) ?_
        refine RG.op _ _ rfl rfl (o_eqI rfl rfl) ?_
        refine RG.nil (h16_ _ ?_)
        refine WC.cond _ rfl (fun c8 => ?_) (fun c8 => ?_)
        ·
          have p8 := c8
          try simp only [decide_eq_true_eq, decide_eq_false_iff_not, Bool.and_eq_true, Bool.or_eq_true, Bool.not_eq_true', Bool.not_eq_false', Bool.and_eq_false_iff, Bool.or_eq_false_iff, beq_iff_eq, bne_iff_ne, beq_eq_false_iff_ne, bne_eq_false_iff_eq, Int.not_lt, Int.not_le, ne_eq, Decidable.not_not] at p8
          refine WC.exit (h5_ _ ?_)
          refine WC.seq fun Fh17_ h17_ => ?_
          refine WC.region ?_
          refine RG.op _ _ rfl rfl (o_build (cs := [B8 0, I64 0, S []]) Try.underlying41 Ty.inf41 (Ty.pl41 Try.underlying41) rfl) ?_
          refine RG.op _ _ rfl rfl (o_store (d := (.agg [_, _, _])) rfl rfl rfl rfl (sz_of Ty.inf41) (Nat.le_of_ble_eq_true rfl) rfl) ?_
          refine RG.op _ _ rfl rfl (o_assign (.v _) rfl) ?_
          refine RG.op _ _ rfl rfl (o_assign (.v _) rfl) ?_
          refine RG.nil (h17_ _ ?_)
          refine WC.ret ?_
          exact Ends.r3 rfl (.agg rfl Try.underlying41 rfl (sz_of Ty.inf41) rfl rfl rfl) (.tmp _ (.v _) rfl) (.tmp _ (.v _) rfl) (.pure' (by first | exact .v _ | exact .rd _ _ | exact .adr _ | exact .mp _ _ | exact .agg _ (by repeat (first | exact pu_bytes _ | exact pu_nil | exact pu_vs rfl | exact pu_map (fun _ => .v _) _ | exact pu_vals _ | refine pu_app ?_ ?_ | refine pu_cons (by first | exact .v _ | exact .rd _ _ | exact .adr _ | exact .mp _ _ | exact .agg _ (pu_vs rfl)) ?_)) | exact .tup _ (by repeat (first | exact pu_bytes _ | exact pu_nil | exact pu_vs rfl | exact pu_map (fun _ => .v _) _ | exact pu_vals _ | refine pu_app ?_ ?_ | refine pu_cons (by first | exact .v _ | exact .rd _ _ | exact .adr _ | exact .mp _ _ | exact .agg _ (pu_vs rfl)) ?_)) | exact .fn _ _ (by repeat (first | exact pu_bytes _ | exact pu_nil | exact pu_vs rfl | exact pu_map (fun _ => .v _) _ | exact pu_vals _ | refine pu_app ?_ ?_ | refine pu_cons (by first | exact .v _ | exact .rd _ _ | exact .adr _ | exact .mp _ _ | exact .agg _ (pu_vs rfl)) ?_)) | exact .iface _ _ (.v _) | exact .iface _ _ (.agg _ (by repeat (first | exact pu_bytes _ | exact pu_nil | exact pu_vs rfl | exact pu_map (fun _ => .v _) _ | exact pu_vals _ | refine pu_app ?_ ?_ | refine pu_cons (by first | exact .v _ | exact .rd _ _ | exact .adr _ | exact .mp _ _ | exact .agg _ (pu_vs rfl)) ?_))))) (.v _) (.v _) (by unfold textR; rw [hp4, text_b hlt p6 (by omega)]; rfl)
        ·
          have p8 := c8
          try simp only [decide_eq_true_eq, decide_eq_false_iff_not, Bool.and_eq_true, Bool.or_eq_true, Bool.not_eq_true', Bool.not_eq_false', Bool.and_eq_false_iff, Bool.or_eq_false_iff, beq_iff_eq, bne_iff_ne, beq_eq_false_iff_ne, bne_eq_false_iff_eq, Int.not_lt, Int.not_le, ne_eq, Decidable.not_not] at p8
          have hlt2 : p.2 + 1 < b.length := by omega
          refine WC.skip (h15_ _ ?_)
          refine WC.seq fun Fh18_ h18_ => ?_
          refine WC.region ?_
          refine RG.op _ _ rfl rfl (o_move (.rd _ _) rfl) ?_
          refine RG.op _ _ rfl rfl (o_move (.v _) rfl) ?_
          refine RG.op _ _ rfl rfl (o_ixn_M (p.2 + 1) rfl rfl Try.underlying22 (sz_of Ty.inf5) (by first | omega | exact ubyte _ | (simp only [bytesD_len, zeros_len, flatMap_len vc_len, List.length_append, List.length_take, List.length_drop, List.length_map, List.length_nil, List.length_cons, List.length_replicate, List.length_reverse, List.length_set, List.length_range, strB_size] <;> omega)) (by first | omega | exact ubyte _ | (simp only [bytesD_len, zeros_len, flatMap_len vc_len, List.length_append, List.length_take, List.length_drop, List.length_map, List.length_nil, List.length_cons, List.length_replicate, List.length_reverse, List.length_set, List.length_range, strB_size] <;> omega))) ?_
          refine RG.op _ _ rfl rfl (o_load_adr rfl Try.underlying5 rfl rfl) ?_
          refine RG.nil (h18_ _ ?_)
          refine WC.block ?_
          refine WC.seq fun Fh19_ h19_ => ?_
          refine WC.region ?_
          refine RG.op _ _ rfl rfl (o_eqB (b := 255) rfl rfl) ?_
          refine RG.op _ _ rfl rfl (o_assign (.v _) rfl) ?_
          refine RG.nil (h19_ _ ?_)
          refine WC.cond _ rfl (fun c11 => ?_) (fun c11 => ?_)
          ·
            have p11 := c11
            try simp only [decide_eq_true_eq, decide_eq_false_iff_not, Bool.and_eq_true, Bool.or_eq_true, Bool.not_eq_true', Bool.not_eq_false', Bool.and_eq_false_iff, Bool.or_eq_false_iff, beq_iff_eq, bne_iff_ne, beq_eq_false_iff_ne, bne_eq_false_iff_eq, Int.not_lt, Int.not_le, ne_eq, Decidable.not_not] at p11
            refine WC.seq fun Fh20_ h20_ => ?_
            refine WC.region ?_
            refine RG.op _ _ rfl rfl (o_move (.own _ _ _ _ _) rfl) ?_
            refine RG.op _ _ rfl rfl (o_litP (cs := [(B8 0)]) Try.underlying22 Ty.inf5 rfl rfl rfl rfl (by repeat (first | exact pu_bytes _ | exact pu_nil | exact pu_vs rfl | exact pu_map (fun _ => .v _) _ | exact pu_vals _ | refine pu_app ?_ ?_ | refine pu_cons (by first | exact .v _ | exact .rd _ _ | exact .adr _ | exact .mp _ _ | exact .agg _ (by repeat (first | exact pu_bytes _ | exact pu_nil | exact pu_vs rfl | exact pu_map (fun _ => .v _) _ | exact pu_vals _ | refine pu_app ?_ ?_ | refine pu_cons (by first | exact .v _ | exact .rd _ _ | exact .adr _ | exact .mp _ _ | exact .agg _ (pu_vs rfl)) ?_)) | exact .tup _ (by repeat (first | exact pu_bytes _ | exact pu_nil | exact pu_vs rfl | exact pu_map (fun _ => .v _) _ | exact pu_vals _ | refine pu_app ?_ ?_ | refine pu_cons (by first | exact .v _ | exact .rd _ _ | exact .adr _ | exact .mp _ _ | exact .agg _ (pu_vs rfl)) ?_)) | exact .fn _ _ (by repeat (first | exact pu_bytes _ | exact pu_nil | exact pu_vs rfl | exact pu_map (fun _ => .v _) _ | exact pu_vals _ | refine pu_app ?_ ?_ | refine pu_cons (by first | exact .v _ | exact .rd _ _ | exact .adr _ | exact .mp _ _ | exact .agg _ (pu_vs rfl)) ?_)) | exact .iface _ _ (.v _) | exact .iface _ _ (.agg _ (by repeat (first | exact pu_bytes _ | exact pu_nil | exact pu_vs rfl | exact pu_map (fun _ => .v _) _ | exact pu_vals _ | refine pu_app ?_ ?_ | refine pu_cons (by first | exact .v _ | exact .rd _ _ | exact .adr _ | exact .mp _ _ | exact .agg _ (pu_vs rfl)) ?_)))) ?_))) ?_
            refine RG.op _ _ rfl rfl (o_appT (Elem.of Try.underlying22 Ty.inf5 rfl (by decide)) rfl rfl rfl (by first | omega | exact ubyte _ | (simp only [bytesD_len, zeros_len, flatMap_len vc_len, List.length_append, List.length_take, List.length_drop, List.length_map, List.length_nil, List.length_cons, List.length_replicate, List.length_reverse, List.length_set, List.length_range, strB_size] <;> omega)) (by first | omega | exact ubyte _ | (simp only [bytesD_len, zeros_len, flatMap_len vc_len, List.length_append, List.length_take, List.length_drop, List.length_map, List.length_nil, List.length_cons, List.length_replicate, List.length_reverse, List.length_set, List.length_range, strB_size] <;> omega)) (by repeat (first | exact bytesD_one _ | exact one_nil | exact one_map (fun _ => rfl) _ | exact one_vals _ | refine one_app ?_ ?_ | refine one_cons rfl ?_)) (by first | omega | exact ubyte _ | (simp only [bytesD_len, zeros_len, flatMap_len vc_len, List.length_append, List.length_take, List.length_drop, List.length_map, List.length_nil, List.length_cons, List.length_replicate, List.length_reverse, List.length_set, List.length_range, strB_size] <;> omega)) (by first | omega | exact ubyte _ | (simp only [bytesD_len, zeros_len, flatMap_len vc_len, List.length_append, List.length_take, List.length_drop, List.length_map, List.length_nil, List.length_cons, List.length_replicate, List.length_reverse, List.length_set, List.length_range, strB_size] <;> omega))) ?_
            refine RG.op _ _ rfl rfl (o_assign (.own _ _ _ _ _) rfl) ?_
            refine RG.nil (h20_ _ ?_)
            refine WC.region ?_
            refine RG.op _ _ rfl rfl (o_move (.v _) rfl) ?_
            refine RG.op _ _ rfl rfl (o_add rfl rfl (by first | omega | exact ubyte _ | (simp only [bytesD_len, zeros_len, flatMap_len vc_len, List.length_append, List.length_take, List.length_drop, List.length_map, List.length_nil, List.length_cons, List.length_replicate, List.length_reverse, List.length_set, List.length_range, strB_size] <;> omega)) (by first | omega | exact ubyte _ | (simp only [bytesD_len, zeros_len, flatMap_len vc_len, List.length_append, List.length_take, List.length_drop, List.length_map, List.length_nil, List.length_cons, List.length_replicate, List.length_reverse, List.length_set, List.length_range, strB_size] <;> omega))) ?_
            refine RG.op _ _ rfl rfl (o_assign (.v _) rfl) ?_
            refine RG.nil (Exists.intro ((p.1 ++ [0], p.2 + 2)) ⟨⟨by show _ ≤ _; omega, by show _ ≤ _; omega, by simp; omega, by rw [hp4, text_c hlt2 p6 p11, addT_addT]; congr 1; omega⟩, (by show _ < _; omega), ?_⟩)
            exact .mk' ⟨⟨rfl, .v _⟩, ⟨ow_eq (by simp), (by first | exact .own _ _ _ _ _ (Nat.le_refl _) | exact .ptr _ _ _ (Nat.le_refl _) | exact .omp _ _ (Nat.le_refl _))⟩, trivial⟩ (by repeat (first | with_reducible exact same_refl _ _ | with_reducible refine same_updO (by with_unfolding_all exact rfl) ?_ | with_reducible refine same_updN ?_ | with_reducible refine same_updL (by with_unfolding_all exact rfl) ?_ | with_reducible refine same_forget (by with_unfolding_all exact rfl) ?_)) (congrArg (fun c => [some _, c]) (tb_eq (by simp) (by simp [bytesD]))) (by repeat (first | exact trivial | refine And.intro (Nat.le_refl _) ?_ | refine And.intro trivial ?_ | refine And.intro (by show _ ≤ _; (first | omega | (simp only [bytesD_len, zeros_len, flatMap_len vc_len, List.length_append, List.length_take, List.length_drop, List.length_map, List.length_nil, List.length_cons, List.length_replicate, List.length_reverse, List.length_set, List.length_range, strB_size] <;> omega))) ?_)) (by repeat (first | exact trivial | refine And.intro (okp (by repeat (first | exact pu_bytes _ | exact pu_nil | exact pu_vs rfl | exact pu_map (fun _ => .v _) _ | exact pu_vals _ | refine pu_app ?_ ?_ | refine pu_cons (by first | exact .v _ | exact .rd _ _ | exact .adr _ | exact .mp _ _ | exact .agg _ (by repeat (first | exact pu_bytes _ | exact pu_nil | exact pu_vs rfl | exact pu_map (fun _ => .v _) _ | exact pu_vals _ | refine pu_app ?_ ?_ | refine pu_cons (by first | exact .v _ | exact .rd _ _ | exact .adr _ | exact .mp _ _ | exact .agg _ (pu_vs rfl)) ?_)) | exact .tup _ (by repeat (first | exact pu_bytes _ | exact pu_nil | exact pu_vs rfl | exact pu_map (fun _ => .v _) _ | exact pu_vals _ | refine pu_app ?_ ?_ | refine pu_cons (by first | exact .v _ | exact .rd _ _ | exact .adr _ | exact .mp _ _ | exact .agg _ (pu_vs rfl)) ?_)) | exact .fn _ _ (by repeat (first | exact pu_bytes _ | exact pu_nil | exact pu_vs rfl | exact pu_map (fun _ => .v _) _ | exact pu_vals _ | refine pu_app ?_ ?_ | refine pu_cons (by first | exact .v _ | exact .rd _ _ | exact .adr _ | exact .mp _ _ | exact .agg _ (pu_vs rfl)) ?_)) | exact .iface _ _ (.v _) | exact .iface _ _ (.agg _ (by repeat (first | exact pu_bytes _ | exact pu_nil | exact pu_vs rfl | exact pu_map (fun _ => .v _) _ | exact pu_vals _ | refine pu_app ?_ ?_ | refine pu_cons (by first | exact .v _ | exact .rd _ _ | exact .adr _ | exact .mp _ _ | exact .agg _ (pu_vs rfl)) ?_)))) ?_))) ?_))
          ·
            have p11 := c11
            try simp only [decide_eq_true_eq, decide_eq_false_iff_not, Bool.and_eq_true, Bool.or_eq_true, Bool.not_eq_true', Bool.not_eq_false', Bool.and_eq_false_iff, Bool.or_eq_false_iff, beq_iff_eq, bne_iff_ne, beq_eq_false_iff_ne, bne_eq_false_iff_eq, Int.not_lt, Int.not_le, ne_eq, Decidable.not_not] at p11
            refine WC.seq fun Fh21_ h21_ => ?_
            refine WC.region ?_
            refine RG.op _ _ rfl rfl (o_eqB (b := 1) rfl rfl) ?_
            refine RG.op _ _ rfl rfl (o_assign (.v _) rfl) ?_
            refine RG.nil (h21_ _ ?_)
            refine WC.cond _ rfl (fun c14 => ?_) (fun c14 => ?_)
            ·
              have p14 := c14
              try simp only [decide_eq_true_eq, decide_eq_false_iff_not, Bool.and_eq_true, Bool.or_eq_true, Bool.not_eq_true', Bool.not_eq_false', Bool.and_eq_false_iff, Bool.or_eq_false_iff, beq_iff_eq, bne_iff_ne, beq_eq_false_iff_ne, bne_eq_false_iff_eq, Int.not_lt, Int.not_le, ne_eq, Decidable.not_not] at p14
              refine WC.seq fun Fh22_ h22_ => ?_
              refine WC.region ?_
              refine RG.op _ _ rfl rfl (o_move (.own _ _ _ _ _) rfl) ?_
              refine RG.op _ _ rfl rfl (o_str_own rfl rfl rfl rfl (by first | omega | exact ubyte _ | (simp only [bytesD_len, zeros_len, flatMap_len vc_len, List.length_append, List.length_take, List.length_drop, List.length_map, List.length_nil, List.length_cons, List.length_replicate, List.length_reverse, List.length_set, List.length_range, strB_size] <;> omega)) Try.underlying22 Try.underlying5 Try.underlying9) ?_
              refine RG.op _ _ rfl rfl (o_build (cs := [(B8 3), I64 0, (.v _)]) Try.underlying41 Ty.inf41 (Ty.pl41 Try.underlying41) rfl) ?_
              refine RG.op _ _ rfl rfl (o_move (.v _) rfl) ?_
              refine RG.op _ _ rfl rfl (o_add rfl rfl (by first | omega | exact ubyte _ | (simp only [bytesD_len, zeros_len, flatMap_len vc_len, List.length_append, List.length_take, List.length_drop, List.length_map, List.length_nil, List.length_cons, List.length_replicate, List.length_reverse, List.length_set, List.length_range, strB_size] <;> omega)) (by first | omega | exact ubyte _ | (simp only [bytesD_len, zeros_len, flatMap_len vc_len, List.length_append, List.length_take, List.length_drop, List.length_map, List.length_nil, List.length_cons, List.length_replicate, List.length_reverse, List.length_set, List.length_range, strB_size] <;> omega))) ?_
              refine RG.op _ _ rfl rfl (o_store (d := (.agg [_, _, _])) rfl rfl rfl rfl (sz_of Ty.inf41) (Nat.le_of_ble_eq_true rfl) rfl) ?_
              refine RG.op _ _ rfl rfl (o_assign (.v _) rfl) ?_
              refine RG.op _ _ rfl rfl (o_assign (.v _) rfl) ?_
              refine RG.nil (h22_ _ ?_)
              refine WC.ret ?_
              exact Ends.r3 rfl (.agg rfl Try.underlying41 rfl (sz_of Ty.inf41) rfl rfl rfl) (.tmp _ (.v _) rfl) (.tmp _ (.v _) rfl) (.pure' (by first | exact .v _ | exact .rd _ _ | exact .adr _ | exact .mp _ _ | exact .agg _ (by repeat (first | exact pu_bytes _ | exact pu_nil | exact pu_vs rfl | exact pu_map (fun _ => .v _) _ | exact pu_vals _ | refine pu_app ?_ ?_ | refine pu_cons (by first | exact .v _ | exact .rd _ _ | exact .adr _ | exact .mp _ _ | exact .agg _ (pu_vs rfl)) ?_)) | exact .tup _ (by repeat (first | exact pu_bytes _ | exact pu_nil | exact pu_vs rfl | exact pu_map (fun _ => .v _) _ | exact pu_vals _ | refine pu_app ?_ ?_ | refine pu_cons (by first | exact .v _ | exact .rd _ _ | exact .adr _ | exact .mp _ _ | exact .agg _ (pu_vs rfl)) ?_)) | exact .fn _ _ (by repeat (first | exact pu_bytes _ | exact pu_nil | exact pu_vs rfl | exact pu_map (fun _ => .v _) _ | exact pu_vals _ | refine pu_app ?_ ?_ | refine pu_cons (by first | exact .v _ | exact .rd _ _ | exact .adr _ | exact .mp _ _ | exact .agg _ (pu_vs rfl)) ?_)) | exact .iface _ _ (.v _) | exact .iface _ _ (.agg _ (by repeat (first | exact pu_bytes _ | exact pu_nil | exact pu_vs rfl | exact pu_map (fun _ => .v _) _ | exact pu_vals _ | refine pu_app ?_ ?_ | refine pu_cons (by first | exact .v _ | exact .rd _ _ | exact .adr _ | exact .mp _ _ | exact .agg _ (pu_vs rfl)) ?_))))) (.v _) (.v _) (by unfold textR; rw [hp4, text_d hlt2 p6 p14]; exact rr_eq (v := ⟨3, 0, p.1⟩) (by simp) (by show _ = ((p.2 - 1 + 2 + 1 : Nat) : Int); omega))
            ·
              have p14 := c14
              try simp only [decide_eq_true_eq, decide_eq_false_iff_not, Bool.and_eq_true, Bool.or_eq_true, Bool.not_eq_true', Bool.not_eq_false', Bool.and_eq_false_iff, Bool.or_eq_false_iff, beq_iff_eq, bne_iff_ne, beq_eq_false_iff_ne, bne_eq_false_iff_eq, Int.not_lt, Int.not_le, ne_eq, Decidable.not_not] at p14
              refine WC.seq fun Fh23_ h23_ => ?_
              refine WC.region ?_
              refine RG.op _ _ rfl rfl (o_build (cs := [B8 0, I64 0, S []]) Try.underlying41 Ty.inf41 (Ty.pl41 Try.underlying41) rfl) ?_
              refine RG.op _ _ rfl rfl (o_store (d := (.agg [_, _, _])) rfl rfl rfl rfl (sz_of Ty.inf41) (Nat.le_of_ble_eq_true rfl) rfl) ?_
              refine RG.op _ _ rfl rfl (o_assign (.v _) rfl) ?_
              refine RG.op _ _ rfl rfl (o_assign (.v _) rfl) ?_
              refine RG.nil (h23_ _ ?_)
              refine WC.ret ?_
              exact Ends.r3 rfl (.agg rfl Try.underlying41 rfl (sz_of Ty.inf41) rfl rfl rfl) (.tmp _ (.v _) rfl) (.tmp _ (.v _) rfl) (.pure' (by first | exact .v _ | exact .rd _ _ | exact .adr _ | exact .mp _ _ | exact .agg _ (by repeat (first | exact pu_bytes _ | exact pu_nil | exact pu_vs rfl | exact pu_map (fun _ => .v _) _ | exact pu_vals _ | refine pu_app ?_ ?_ | refine pu_cons (by first | exact .v _ | exact .rd _ _ | exact .adr _ | exact .mp _ _ | exact .agg _ (pu_vs rfl)) ?_)) | exact .tup _ (by repeat (first | exact pu_bytes _ | exact pu_nil | exact pu_vs rfl | exact pu_map (fun _ => .v _) _ | exact pu_vals _ | refine pu_app ?_ ?_ | refine pu_cons (by first | exact .v _ | exact .rd _ _ | exact .adr _ | exact .mp _ _ | exact .agg _ (pu_vs rfl)) ?_)) | exact .fn _ _ (by repeat (first | exact pu_bytes _ | exact pu_nil | exact pu_vs rfl | exact pu_map (fun _ => .v _) _ | exact pu_vals _ | refine pu_app ?_ ?_ | refine pu_cons (by first | exact .v _ | exact .rd _ _ | exact .adr _ | exact .mp _ _ | exact .agg _ (pu_vs rfl)) ?_)) | exact .iface _ _ (.v _) | exact .iface _ _ (.agg _ (by repeat (first | exact pu_bytes _ | exact pu_nil | exact pu_vs rfl | exact pu_map (fun _ => .v _) _ | exact pu_vals _ | refine pu_app ?_ ?_ | refine pu_cons (by first | exact .v _ | exact .rd _ _ | exact .adr _ | exact .mp _ _ | exact .agg _ (pu_vs rfl)) ?_))))) (.v _) (.v _) (by unfold textR; rw [hp4, text_e hlt2 p6 p11 p14]; rfl)
    ·
      have p3 := c3
      try simp only [decide_eq_true_eq, decide_eq_false_iff_not, Bool.and_eq_true, Bool.or_eq_true, Bool.not_eq_true', Bool.not_eq_false', Bool.and_eq_false_iff, Bool.or_eq_false_iff, beq_iff_eq, bne_iff_ne, beq_eq_false_iff_ne, bne_eq_false_iff_eq, Int.not_lt, Int.not_le, ne_eq, Decidable.not_not] at p3
      refine WC.exit (h5_ _ ?_)
      refine WC.seq fun Fh24_ h24_ => ?_
      refine WC.region ?_
      refine RG.op _ _ rfl rfl (o_build (cs := [B8 0, I64 0, S []]) Try.underlying41 Ty.inf41 (Ty.pl41 Try.underlying41) rfl) ?_
      refine RG.op _ _ rfl rfl (o_store (d := (.agg [_, _, _])) rfl rfl rfl rfl (sz_of Ty.inf41) (Nat.le_of_ble_eq_true rfl) rfl) ?_
      refine RG.op _ _ rfl rfl (o_assign (.v _) rfl) ?_
      refine RG.op _ _ rfl rfl (o_assign (.v _) rfl) ?_
      refine RG.nil (h24_ _ ?_)
      refine WC.ret ?_
      exact Ends.r3 rfl (.agg rfl Try.underlying41 rfl (sz_of Ty.inf41) rfl rfl rfl) (.tmp _ (.v _) rfl) (.tmp _ (.v _) rfl) (.pure' (by first | exact .v _ | exact .rd _ _ | exact .adr _ | exact .mp _ _ | exact .agg _ (by repeat (first | exact pu_bytes _ | exact pu_nil | exact pu_vs rfl | exact pu_map (fun _ => .v _) _ | exact pu_vals _ | refine pu_app ?_ ?_ | refine pu_cons (by first | exact .v _ | exact .rd _ _ | exact .adr _ | exact .mp _ _ | exact .agg _ (pu_vs rfl)) ?_)) | exact .tup _ (by repeat (first | exact pu_bytes _ | exact pu_nil | exact pu_vs rfl | exact pu_map (fun _ => .v _) _ | exact pu_vals _ | refine pu_app ?_ ?_ | refine pu_cons (by first | exact .v _ | exact .rd _ _ | exact .adr _ | exact .mp _ _ | exact .agg _ (pu_vs rfl)) ?_)) | exact .fn _ _ (by repeat (first | exact pu_bytes _ | exact pu_nil | exact pu_vs rfl | exact pu_map (fun _ => .v _) _ | exact pu_vals _ | refine pu_app ?_ ?_ | refine pu_cons (by first | exact .v _ | exact .rd _ _ | exact .adr _ | exact .mp _ _ | exact .agg _ (pu_vs rfl)) ?_)) | exact .iface _ _ (.v _) | exact .iface _ _ (.agg _ (by repeat (first | exact pu_bytes _ | exact pu_nil | exact pu_vs rfl | exact pu_map (fun _ => .v _) _ | exact pu_vals _ | refine pu_app ?_ ?_ | refine pu_cons (by first | exact .v _ | exact .rd _ _ | exact .adr _ | exact .mp _ _ | exact .agg _ (pu_vs rfl)) ?_))))) (.v _) (.v _) (by unfold textR; rw [hp4, text_f (by omega)]; rfl)
end Go.Proofs.Ytmkljbcjgobjfaa
