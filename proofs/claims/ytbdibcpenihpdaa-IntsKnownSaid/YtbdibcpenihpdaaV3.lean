/-
  Layer varint: the document's Put, Get, Zig, Zag. No condition.
-/
import Derived.Test.YtbdibcpenihpdaaV2
import Derived.Test.YtbdibcpenihpdaaDlU
set_option linter.unusedSimpArgs false
set_option linter.unusedVariables false
namespace Go.Proofs.Ytbdibcpenihpdaa
open Go.RowKit Go.DL

set_option maxHeartbeats 4000000 in
theorem rput_c (u : Nat) (hu : u ≤ 18446744073709551615) : Fun Try.prog 42 [N64 u] (· = rdB (encB u)) := by
  refine Fun.of Try.func42 rfl (Nat.le_of_ble_eq_true rfl) fun C => ?_
  refine WC.seq fun Fh1_ h1_ => ?_
  refine WC.region ?_
  refine RG.op _ _ rfl rfl (o_assign (.v _) rfl) ?_
  refine RG.nil (h1_ _ ?_)
  refine WC.seq fun Fh2_ h2_ => ?_
  refine WC.region ?_
  refine RG.op _ _ rfl rfl (o_nil 5 1) ?_
  refine RG.nil (h2_ _ ?_)
  refine WC.block ?_
  refine WC.loopU [0, 2, 3, 4, 5, 6, 7, 8, 9, 10, 11, 12, 13, 14, 15, 16, 17, 18, 19, 20] (fun (p : List UInt8 × Nat) => [(0, N64 p.2), (3, ow 0 p.1.length 1)]) (fun (p : List UInt8 × Nat) => [(0, tb 5 p.1.length (bytesD p.1))]) (fun (p : List UInt8 × Nat) => p.1 ++ encB p.2 = encB u ∧ p.2 ≤ u) (fun (p : List UInt8 × Nat) => p.2) ([], u) ⟨rfl, Nat.le_refl _⟩ ?lpa3_ ?lpb4_
  case lpa3_ =>
    exact .mk' ⟨⟨rfl, .v _⟩, ⟨rfl, (by first | exact .own _ _ _ _ _ (Nat.le_refl _) | exact .ptr _ _ _ (Nat.le_refl _) | exact .omp _ _ (Nat.le_refl _))⟩, trivial⟩ (same_refl _ _) (rfl) (by repeat (first | exact trivial | refine And.intro (Nat.le_refl _) ?_ | refine And.intro trivial ?_ | refine And.intro (by show _ ≤ _; (first | omega | (simp only [LS] <;> omega))) ?_)) (by repeat (first | exact trivial | refine And.intro (one_ok (.own _ _ _ _ _ (Nat.le_refl _))) ?_ | refine And.intro (okp (by repeat (first | exact pu_bytes _ | exact pu_nil | exact pu_vs rfl | exact pu_map (fun _ => .v _) _ | exact pu_vals _ | refine pu_app ?_ ?_ | refine pu_cons (by exact pu_of rfl) ?_))) ?_))
  case lpb4_ =>
    rintro p hI
    obtain ⟨he, hp⟩ := id hI
    have hl := enc_lt2 hu he
    refine WC.block ?_
    refine WC.seq fun Fh5_ h5_ => ?_
    refine WC.region ?_
    refine RG.op _ _ rfl rfl (o_move (.v _) rfl) ?_
    refine RG.op _ _ rfl rfl (o_remU (b := 128) rfl rfl (by first | omega | exact ubyte _ | (simp only [LS] <;> omega))) ?_
    refine RG.op _ _ rfl rfl (o_UtoB rfl Try.underlying72 Try.underlying5) ?_
    refine RG.op _ _ rfl rfl (o_assign (.v _) rfl) ?_
    refine RG.nil (h5_ _ ?_)
    refine WC.seq fun Fh6_ h6_ => ?_
    refine WC.region ?_
    refine RG.op _ _ rfl rfl (o_move (.v _) rfl) ?_
    refine RG.op _ _ rfl rfl (o_quoU (b := 128) rfl rfl (by first | omega | exact ubyte _ | (simp only [LS] <;> omega)) (by first | omega | exact ubyte _ | (simp only [LS] <;> omega))) ?_
    refine RG.op _ _ rfl rfl (o_assign (.v _) rfl) ?_
    refine RG.nil (h6_ _ ?_)
    refine WC.seq fun Fh7_ h7_ => ?_
    refine WC.seq fun Fh8_ h8_ => ?_
    refine WC.region ?_
    refine RG.op _ _ rfl rfl (o_move (.v _) rfl) ?_
    refine RG.op _ _ rfl rfl (o_eqI rfl rfl) ?_
    refine RG.nil (h8_ _ ?_)
    refine WC.cond _ rfl (fun c4 => ?_) (fun c4 => ?_)
    ·
      have p4 := c4
      try simp only [CN] at p4
      refine WC.seq fun Fh9_ h9_ => ?_
      refine WC.region ?_
      refine RG.op _ _ rfl rfl (o_move (.own _ _ _ _ _) rfl) ?_
      refine RG.op _ _ rfl rfl (o_move (.v _) rfl) ?_
      refine RG.op _ _ rfl rfl (o_litP (cs := [(.v _)]) Try.underlying22 Ty.inf5 rfl rfl rfl rfl (by repeat (first | exact pu_bytes _ | exact pu_nil | exact pu_vs rfl | exact pu_map (fun _ => .v _) _ | exact pu_vals _ | refine pu_app ?_ ?_ | refine pu_cons (by exact pu_of rfl) ?_))) ?_
      refine RG.op _ _ rfl rfl (o_appT (Elem.of Try.underlying22 Ty.inf5 rfl (by decide)) rfl rfl rfl (by first | omega | exact ubyte _ | (simp only [LS] <;> omega)) (by first | omega | exact ubyte _ | (simp only [LS] <;> omega)) (by repeat (first | exact bytesD_one _ | exact one_nil | exact one_map (fun _ => rfl) _ | exact one_vals _ | refine one_app ?_ ?_ | refine one_cons rfl ?_)) (by first | omega | exact ubyte _ | (simp only [LS] <;> omega)) (by first | omega | exact ubyte _ | (simp only [LS] <;> omega))) ?_
      refine RG.op _ _ rfl rfl (o_assign (.own _ _ _ _ _) rfl) ?_
      refine RG.nil (h9_ _ ?_)
      refine WC.ret ?_
      exact Ends.r1 rfl (.tmp _ (.own _ _ _ _ _) rfl) (.tb rfl (by repeat (first | exact pu_bytes _ | exact pu_nil | exact pu_vs rfl | exact pu_map (fun _ => .v _) _ | exact pu_vals _ | refine pu_app ?_ ?_ | refine pu_cons (by exact pu_of rfl) ?_))) (rd_eq (by rw [← he, encB_small (u := p.2) (by omega)]; simp) (by rw [← he, encB_small (u := p.2) (by omega), Nat.mod_eq_of_lt (by omega)]; exact (bytesD_app _ [_]).symm))
    ·
      have p4 := c4
      try simp only [CN] at p4
      refine WC.skip (h7_ _ ?_)
      refine WC.region ?_
      refine RG.op _ _ rfl rfl (o_move (.own _ _ _ _ _) rfl) ?_
      refine RG.op _ _ rfl rfl (o_move (.v _) rfl) ?_
      refine RG.op _ _ rfl rfl (o_addB (b := 128) rfl rfl) ?_
      refine RG.op _ _ rfl rfl (o_litP (cs := [(.v _)]) Try.underlying22 Ty.inf5 rfl rfl rfl rfl (by repeat (first | exact pu_bytes _ | exact pu_nil | exact pu_vs rfl | exact pu_map (fun _ => .v _) _ | exact pu_vals _ | refine pu_app ?_ ?_ | refine pu_cons (by exact pu_of rfl) ?_))) ?_
      refine RG.op _ _ rfl rfl (o_appT (Elem.of Try.underlying22 Ty.inf5 rfl (by decide)) rfl rfl rfl (by first | omega | exact ubyte _ | (simp only [LS] <;> omega)) (by first | omega | exact ubyte _ | (simp only [LS] <;> omega)) (by repeat (first | exact bytesD_one _ | exact one_nil | exact one_map (fun _ => rfl) _ | exact one_vals _ | refine one_app ?_ ?_ | refine one_cons rfl ?_)) (by first | omega | exact ubyte _ | (simp only [LS] <;> omega)) (by first | omega | exact ubyte _ | (simp only [LS] <;> omega))) ?_
      refine RG.op _ _ rfl rfl (o_assign (.own _ _ _ _ _) rfl) ?_
      refine RG.nil (Exists.intro ((p.1 ++ [UInt8.ofNat (p.2 % 128 + 128)], p.2 / 128)) ⟨⟨by rw [← he, encB_big (u := p.2) (by omega), List.append_assoc]; rfl, by show p.2 / 128 ≤ u; omega⟩, by show p.2 / 128 < p.2; omega, ?_⟩)
      exact .mk' ⟨⟨rfl, .v _⟩, ⟨ow_eq (by simp), (by first | exact .own _ _ _ _ _ (Nat.le_refl _) | exact .ptr _ _ _ (Nat.le_refl _) | exact .omp _ _ (Nat.le_refl _))⟩, trivial⟩ (by repeat (first | with_reducible exact same_refl _ _ | with_reducible refine same_updO (by with_unfolding_all exact rfl) ?_ | with_reducible refine same_updN ?_ | with_reducible refine same_updL (by with_unfolding_all exact rfl) ?_ | with_reducible refine same_forget (by with_unfolding_all exact rfl) ?_)) (congrArg (fun c => [c]) (tb_eq (by simp) (by rw [add_128]; exact (bytesD_app _ [_]).symm))) (by repeat (first | exact trivial | refine And.intro (Nat.le_refl _) ?_ | refine And.intro trivial ?_ | refine And.intro (by show _ ≤ _; (first | omega | (simp only [LS] <;> omega))) ?_)) (by repeat (first | exact trivial | refine And.intro (one_ok (.own _ _ _ _ _ (Nat.le_refl _))) ?_ | refine And.intro (okp (by repeat (first | exact pu_bytes _ | exact pu_nil | exact pu_vs rfl | exact pu_map (fun _ => .v _) _ | exact pu_vals _ | refine pu_app ?_ ?_ | refine pu_cons (by exact pu_of rfl) ?_))) ?_))
set_option maxHeartbeats 4000000 in
theorem rzig_c (v : Int) (h1 : -9223372036854775808 ≤ v) (h2 : v ≤ 9223372036854775807) : Fun Try.prog 43 [I64 v] (· = N64 (zigN v)) := by
  refine Fun.of Try.func43 rfl (Nat.le_of_ble_eq_true rfl) fun C => ?_
  refine WC.seq fun Fh1_ h1_ => ?_
  refine WC.region ?_
  refine RG.op _ _ rfl rfl (o_assign (N64 0) rfl) ?_
  refine RG.nil (h1_ _ ?_)
  refine WC.seq fun Fh2_ h2_ => ?_
  refine WC.seq fun Fh3_ h3_ => ?_
  refine WC.region ?_
  refine RG.op _ _ rfl rfl (o_move (.v _) rfl) ?_
  refine RG.op _ _ rfl rfl (o_geI rfl rfl) ?_
  refine RG.nil (h3_ _ ?_)
  refine WC.cond _ rfl (fun c1 => ?_) (fun c1 => ?_)
  ·
    have p1 := c1
    try simp only [CN] at p1
    refine WC.seq fun Fh4_ h4_ => ?_
    refine WC.region ?_
    refine RG.op _ _ rfl rfl (o_move (.v _) rfl) ?_
    refine RG.op _ _ rfl rfl (o_i64toU rfl Try.underlying2 Try.underlying72) ?_
    refine RG.op _ _ rfl rfl (o_mulU (a := 2) rfl rfl) ?_
    refine RG.op _ _ rfl rfl (o_assign (.v _) rfl) ?_
    refine RG.nil (h4_ _ ?_)
    refine WC.ret ?_
    exact Ends.r1 rfl (.tmp _ (.v _) rfl) (.v _) (congrArg N64 (by unfold zigN; rw [if_pos (by omega)]; omega))
  ·
    have p1 := c1
    try simp only [CN] at p1
    refine WC.skip (h2_ _ ?_)
    refine WC.seq fun Fh5_ h5_ => ?_
    refine WC.region ?_
    refine RG.op _ _ rfl rfl (o_move (.v _) rfl) ?_
    refine RG.op _ _ rfl rfl (o_add rfl rfl (by first | omega | exact ubyte _ | (simp only [LS] <;> omega)) (by first | omega | exact ubyte _ | (simp only [LS] <;> omega))) ?_
    refine RG.op _ _ rfl rfl (o_neg rfl (by first | omega | exact ubyte _ | (simp only [LS] <;> omega)) (by first | omega | exact ubyte _ | (simp only [LS] <;> omega))) ?_
    refine RG.op _ _ rfl rfl (o_i64toU rfl Try.underlying2 Try.underlying72) ?_
    refine RG.op _ _ rfl rfl (o_mulU (a := 2) rfl rfl) ?_
    refine RG.op _ _ rfl rfl (o_addU (b := 1) rfl rfl) ?_
    refine RG.op _ _ rfl rfl (o_assign (.v _) rfl) ?_
    refine RG.nil (h5_ _ ?_)
    refine WC.ret ?_
    exact Ends.r1 rfl (.tmp _ (.v _) rfl) (.v _) (congrArg N64 (by unfold zigN; rw [if_neg (by omega)]; omega))
set_option maxHeartbeats 4000000 in
theorem rzag_c (u : Nat) (hu : u ≤ 18446744073709551615) : Fun Try.prog 47 [N64 u] (· = I64 (zagI u)) := by
  refine Fun.of Try.func47 rfl (Nat.le_of_ble_eq_true rfl) fun C => ?_
  refine WC.seq fun Fh1_ h1_ => ?_
  refine WC.region ?_
  refine RG.op _ _ rfl rfl (o_assign (.v _) rfl) ?_
  refine RG.nil (h1_ _ ?_)
  refine WC.seq fun Fh2_ h2_ => ?_
  refine WC.seq fun Fh3_ h3_ => ?_
  refine WC.region ?_
  refine RG.op _ _ rfl rfl (o_move (.v _) rfl) ?_
  refine RG.op _ _ rfl rfl (o_remU (b := 2) rfl rfl (by first | omega | exact ubyte _ | (simp only [LS] <;> omega))) ?_
  refine RG.op _ _ rfl rfl (o_eqI rfl rfl) ?_
  refine RG.nil (h3_ _ ?_)
  refine WC.cond _ rfl (fun c1 => ?_) (fun c1 => ?_)
  ·
    have p1 := c1
    try simp only [CN] at p1
    have hs : sgn (u / 2) = ((u / 2 : Nat) : Int) := by unfold sgn; rw [if_pos (by omega)]
    refine WC.seq fun Fh4_ h4_ => ?_
    refine WC.region ?_
    refine RG.op _ _ rfl rfl (o_move (.v _) rfl) ?_
    refine RG.op _ _ rfl rfl (o_quoU (b := 2) rfl rfl (by first | omega | exact ubyte _ | (simp only [LS] <;> omega)) (by first | omega | exact ubyte _ | (simp only [LS] <;> omega))) ?_
    refine RG.op _ _ rfl rfl (o_UtoI64 rfl (by first | omega | exact ubyte _ | (simp only [LS] <;> omega)) Try.underlying72 Try.underlying2) ?_
    refine RG.op _ _ rfl rfl (o_assign (.v _) rfl) ?_
    refine RG.nil (h4_ _ ?_)
    refine WC.ret ?_
    exact Ends.r1 rfl (.tmp _ (.v _) rfl) (.v _) (congrArg I64 (by unfold zagI; rw [if_pos (by omega), hs]))
  ·
    have p1 := c1
    try simp only [CN] at p1
    have hs : sgn (u / 2) = ((u / 2 : Nat) : Int) := by unfold sgn; rw [if_pos (by omega)]
    refine WC.skip (h2_ _ ?_)
    refine WC.seq fun Fh5_ h5_ => ?_
    refine WC.region ?_
    refine RG.op _ _ rfl rfl (o_move (.v _) rfl) ?_
    refine RG.op _ _ rfl rfl (o_quoU (b := 2) rfl rfl (by first | omega | exact ubyte _ | (simp only [LS] <;> omega)) (by first | omega | exact ubyte _ | (simp only [LS] <;> omega))) ?_
    refine RG.op _ _ rfl rfl (o_UtoI64 rfl (by first | omega | exact ubyte _ | (simp only [LS] <;> omega)) Try.underlying72 Try.underlying2) ?_
    refine RG.op _ _ rfl rfl (o_neg rfl (by first | omega | exact ubyte _ | (simp only [LS] <;> omega)) (by first | omega | exact ubyte _ | (simp only [LS] <;> omega))) ?_
    refine RG.op _ _ rfl rfl (o_sub rfl rfl (by first | omega | exact ubyte _ | (simp only [LS] <;> omega)) (by first | omega | exact ubyte _ | (simp only [LS] <;> omega))) ?_
    refine RG.op _ _ rfl rfl (o_assign (.v _) rfl) ?_
    refine RG.nil (h5_ _ ?_)
    refine WC.ret ?_
    exact Ends.r1 rfl (.tmp _ (.v _) rfl) (.v _) (congrArg I64 (by unfold zagI; rw [if_neg (by omega), hs]))
theorem getF_at (b : List UInt8) (k : Nat) (hk : k ≤ 9) (h : ∀ i, i < k → i < b.length ∧ 128 ≤ (b.getD i 0).toNat) : vget b = getF (nats b) k (sumUp (nats b) k) (10 - k) := by
  refine getF_from k hk fun i hi => ?_
  obtain ⟨h1, h2⟩ := h i hi
  rw [nats_len, nats_getD h1]
  rw [List.getD_eq_getElem?_getD, List.getElem?_eq_getElem h1] at h2
  exact ⟨h1, h2⟩
theorem getDt {b : List UInt8} {k : Nat} (h : k < b.length) : b.getD k 0 = b[k] := by simp [List.getD, h]
theorem tl_bnd {b : List UInt8} {k j : Nat} (hk : k < 10) (hj : j ≤ k) (hkb : k < b.length) (h9 : k = 9 → (b.getD k 0).toNat ≤ 1) : tl (nats b) (k + 1 - j) j ≤ 18446744073709551615 := by
  have h1 := tl_le (nats b) (k + 1 - j) j
  rw [show k + 1 - j + j = k + 1 by omega] at h1
  refine Nat.le_trans h1 (sum_le _ k hk fun h => ?_)
  rw [nats_getD hkb, ← getDt hkb]; exact h9 h
theorem tl_stepB {b : List UInt8} {k j : Nat} (hj : j ≤ k) (hkb : k < b.length) (hk : k < 10) (h9 : k = 9 → (b.getD k 0).toNat ≤ 1) : (tl (nats b) (k + 1 - j) j * 128 % 18446744073709551616 + (b[k - j]'(by omega) % 128).toNat) % 18446744073709551616 = tl (nats b) (k + 1 - (j + 1)) (j + 1) := by
  have e : tl (nats b) (k + 1 - (j + 1)) (j + 1) = (b[k - j]'(by omega)).toNat % 128 + 128 * tl (nats b) (k + 1 - j) j := by
    rw [tl, show k + 1 - (j + 1) = k - j by omega, nats_getD (by omega), show k - j + 1 = k + 1 - j by omega]
  have hb : tl (nats b) (k + 1 - (j + 1)) (j + 1) ≤ 18446744073709551615 := by
    have h1 := tl_le (nats b) (k + 1 - (j + 1)) (j + 1)
    rw [show k + 1 - (j + 1) + (j + 1) = k + 1 by omega] at h1
    refine Nat.le_trans h1 (sum_le _ k hk fun h => ?_)
    rw [nats_getD hkb, ← getDt hkb]; exact h9 h
  rw [e] at hb ⊢
  rw [UInt8.toNat_mod]
  show (_ * 128 % _ + _ % 128) % _ = _
  omega
theorem form7 {b : List UInt8} {k : Nat} (hk : k ≤ 10) (hkb : k ≤ b.length) (hall : ∀ i, i < k → i < b.length ∧ 128 ≤ (b.getD i 0).toNat) (h4 : ¬ (k = b.length ∧ k < 10)) (h6 : (k = 10 ∨ k = 9 ∧ 1 < (b.getD 9 0).toNat) ∨ 0 < k ∧ b.getD k 0 = 0) : vget b = (0, 0, 21) := by
  by_cases h10 : k = 10
  · subst h10
    obtain ⟨h1, h2⟩ := hall 9 (by omega)
    rw [getDt h1] at h2
    rw [getF_at b 9 (by omega) fun i hi => hall i (by omega)]
    exact getF_nine rfl (nats_at h1) (by omega)
  · have hlt : k < b.length := by omega
    rw [getF_at b k (by omega) hall]
    rcases h6 with (h | ⟨h, h1⟩) | ⟨h, h1⟩
    · omega
    · subst h
      rw [getDt hlt] at h1
      exact getF_nine rfl (nats_at hlt) h1
    · rw [getDt hlt] at h1
      exact getF_zero (by omega) (nats_at hlt) (by rw [h1]; rfl) h
theorem done7 {b : List UInt8} {k : Nat} (hk : k < 10) (hkl : k < b.length) (hall : ∀ i, i < k → i < b.length ∧ 128 ≤ (b.getD i 0).toNat) (h2 : (b.getD k 0).toNat < 128) (h9 : k = 9 → (b.getD k 0).toNat ≤ 1) (h0 : ¬ (0 < k ∧ b.getD k 0 = 0)) : vget b = (tl (nats b) 0 (k + 1), k + 1, 0) := by
  rw [getDt hkl] at h2 h9 h0
  have e := sum_tl (nats b) (k + 1) 0
  rw [Nat.pow_zero, Nat.one_mul, Nat.zero_add, sumUp, sumUp, Nat.zero_add] at e
  rw [e, nats_getD hkl, getF_at b k (by omega) hall]
  exact getF_done hk (nats_at hkl) h2 (fun h => by have := h9 h.1; omega) (fun h => h0 ⟨h.2, UInt8.toNat_inj.1 h.1⟩)
section
variable {P : Program} {C : Ctx} {env : Nat → D} {H : Heap} {dst : Option Nat} {ty t t' : TypeId} {pos : String} {after : Array Edge} {gu : Option (Nat × Bool)} {X Y : Operand}
theorem o_rem128 {c : UInt8} (hx : ev env X = B8 c) (hy : ev env Y = B8 128) : OpD P C ⟨dst, .binOp .rem t X Y t', ty, pos, after, gu⟩ env H (B8 (c % 128)) H :=
  (o_rem (k := .u8) hx hy (Int.natCast_nonneg _) (by decide)).cast (v_int (by rw [UInt8.toNat_mod]; rfl))
end
set_option maxHeartbeats 4000000 in
theorem rget_c (b : List UInt8) (hb : b.length ≤ 10995116277760) : Fun Try.prog 46 [rdB b] (· = vr (vget b)) := by
  refine Fun.of Try.func46 rfl (Nat.le_of_ble_eq_true rfl) fun C => ?_
  refine WC.seq fun Fh1_ h1_ => ?_
  refine WC.region ?_
  refine RG.op _ _ rfl rfl (o_assign (N64 0) rfl) ?_
  refine RG.op _ _ rfl rfl (o_assign (.v _) rfl) ?_
  refine RG.op _ _ rfl rfl (o_assign (.v _) rfl) ?_
  refine RG.nil (h1_ _ ?_)
  refine WC.seq fun Fh2_ h2_ => ?_
  refine WC.region ?_
  refine RG.op _ _ rfl rfl (o_assign (.v _) rfl) ?_
  refine RG.nil (h2_ _ ?_)
  refine WC.seq fun Fh3_ h3_ => ?_
  refine WC.block ?_
  refine WC.loopU [5, 8, 9, 10, 11, 12, 13, 14, 15, 16, 17, 18, 19, 20, 21, 22, 23, 24] (fun (k : Nat) => [(5, I64 ((k : Nat) : Int))]) (fun (k : Nat) => []) (fun (k : Nat) => k ≤ 10 ∧ k ≤ b.length ∧ ∀ i, i < k → i < b.length ∧ 128 ≤ (b.getD i 0).toNat) (fun (k : Nat) => 10 - k) 0 ⟨by omega, by omega, fun i hi => absurd hi (by omega)⟩ ?lpa4_ ?lpb5_
  case lpa4_ =>
    exact .mk' ⟨⟨rfl, .v _⟩, trivial⟩ (same_refl _ _) (rfl) (by repeat (first | exact trivial | refine And.intro (Nat.le_refl _) ?_ | refine And.intro trivial ?_ | refine And.intro (by show _ ≤ _; (first | omega | (simp only [LS] <;> omega))) ?_)) (by repeat (first | exact trivial | refine And.intro (one_ok (.own _ _ _ _ _ (Nat.le_refl _))) ?_ | refine And.intro (okp (by repeat (first | exact pu_bytes _ | exact pu_nil | exact pu_vs rfl | exact pu_map (fun _ => .v _) _ | exact pu_vals _ | refine pu_app ?_ ?_ | refine pu_cons (by exact pu_of rfl) ?_))) ?_))
  case lpb5_ =>
    rintro k hI
    obtain ⟨hk, hkb, hall⟩ := id hI
    refine WC.seq fun Fh6_ h6_ => ?_
    refine WC.seq fun Fh7_ h7_ => ?_
    refine WC.region ?_
    refine RG.op _ _ rfl rfl (o_move (.v _) rfl) ?_
    refine RG.op _ _ rfl rfl (o_move (.rd _ _) rfl) ?_
    refine RG.op _ _ rfl rfl (o_len_rd rfl Try.underlying22) ?_
    refine RG.op _ _ rfl rfl (o_ltI rfl rfl) ?_
    refine RG.op _ _ rfl rfl (o_move (.v _) rfl) ?_
    refine RG.opg1 _ _ _ _ _ rfl rfl rfl rfl rfl (fun hb => o_move (.v _) rfl) ?_
    refine RG.opg1 _ _ _ _ _ rfl rfl rfl rfl rfl (fun hb => o_ltI (gdT hb) rfl) ?_
    refine RG.op _ _ rfl rfl (o_and _ _ rfl rfl rfl) ?_
    refine RG.op _ _ rfl rfl (o_move (.v _) rfl) ?_
    refine RG.opg1 _ _ _ _ _ rfl rfl rfl rfl rfl (fun hb => o_move (.rd _ _) rfl) ?_
    refine RG.opg1 _ _ _ _ _ rfl rfl rfl rfl rfl (fun hb => o_move (.v _) rfl) ?_
    refine RG.opg1 _ _ _ _ _ rfl rfl rfl rfl rfl (fun hb => o_ixn_MZ (0 : UInt8) k (gdT hb) (gdT hb) Try.underlying22 (sz_of Ty.inf5) (by first | omega | exact ubyte _ | (have hb' := hb; simp only [CN] at hb'; omega) | (simp only [LS] <;> omega) | (have hb' := hb; simp only [CN] at hb'; simp only [LS]; omega)) (by first | omega | exact ubyte _ | (have hb' := hb; simp only [CN] at hb'; omega) | (simp only [LS] <;> omega) | (have hb' := hb; simp only [CN] at hb'; simp only [LS]; omega))) ?_
    refine RG.opg1 _ _ _ _ _ rfl rfl rfl rfl rfl (fun hb => o_load_adr (gdT hb) Try.underlying5 rfl rfl) ?_
    refine RG.opg1 _ _ _ _ _ rfl rfl rfl rfl rfl (fun hb => o_geB (b := 128) (gdT hb) rfl) ?_
    refine RG.op _ _ rfl rfl (o_and _ _ rfl rfl rfl) ?_
    refine RG.nil (h7_ _ ?_)
    refine WC.cond _ rfl (fun c2 => ?_) (fun c2 => ?_)
    ·
      have p2 := c2
      try simp only [CN] at p2
      refine WC.skip (h6_ _ ?_)
      refine WC.block ?_
      refine WC.region ?_
      refine RG.op _ _ rfl rfl (o_move (.v _) rfl) ?_
      refine RG.op _ _ rfl rfl (o_add rfl rfl (by first | omega | exact ubyte _ | (simp only [LS] <;> omega)) (by first | omega | exact ubyte _ | (simp only [LS] <;> omega))) ?_
      refine RG.op _ _ rfl rfl (o_assign (.v _) rfl) ?_
      refine RG.nil (Exists.intro (k + 1) ⟨⟨by omega, by omega, fun i hi => by by_cases h : i = k; subst h; exact ⟨by omega, p2.2⟩; exact hall i (by omega)⟩, by omega, ?_⟩)
      exact .mk' ⟨⟨rfl, .v _⟩, trivial⟩ (by repeat (first | with_reducible exact same_refl _ _ | with_reducible refine same_updO (by with_unfolding_all exact rfl) ?_ | with_reducible refine same_updN ?_ | with_reducible refine same_updL (by with_unfolding_all exact rfl) ?_ | with_reducible refine same_forget (by with_unfolding_all exact rfl) ?_)) (rfl) (by repeat (first | exact trivial | refine And.intro (Nat.le_refl _) ?_ | refine And.intro trivial ?_ | refine And.intro (by show _ ≤ _; (first | omega | (simp only [LS] <;> omega))) ?_)) (by repeat (first | exact trivial | refine And.intro (one_ok (.own _ _ _ _ _ (Nat.le_refl _))) ?_ | refine And.intro (okp (by repeat (first | exact pu_bytes _ | exact pu_nil | exact pu_vs rfl | exact pu_map (fun _ => .v _) _ | exact pu_vals _ | refine pu_app ?_ ?_ | refine pu_cons (by exact pu_of rfl) ?_))) ?_))
    ·
      have p2 := c2
      try simp only [CN] at p2
      refine WC.exit (h3_ _ ?_)
      refine WC.seq fun Fh8_ h8_ => ?_
      refine WC.seq fun Fh9_ h9_ => ?_
      refine WC.region ?_
      refine RG.op _ _ rfl rfl (o_move (.v _) rfl) ?_
      refine RG.op _ _ rfl rfl (o_move (.rd _ _) rfl) ?_
      refine RG.op _ _ rfl rfl (o_len_rd rfl Try.underlying22) ?_
      refine RG.op _ _ rfl rfl (o_eqI rfl rfl) ?_
      refine RG.op _ _ rfl rfl (o_move (.v _) rfl) ?_
      refine RG.opg1 _ _ _ _ _ rfl rfl rfl rfl rfl (fun hb => o_move (.v _) rfl) ?_
      refine RG.opg1 _ _ _ _ _ rfl rfl rfl rfl rfl (fun hb => o_ltI (gdT hb) rfl) ?_
      refine RG.op _ _ rfl rfl (o_and _ _ rfl rfl rfl) ?_
      refine RG.nil (h9_ _ ?_)
      refine WC.cond _ rfl (fun c4 => ?_) (fun c4 => ?_)
      ·
        have p4 := c4
        try simp only [CN] at p4
        refine WC.seq fun Fh10_ h10_ => ?_
        refine WC.region ?_
        refine RG.op _ _ rfl rfl (o_assign (N64 0) rfl) ?_
        refine RG.op _ _ rfl rfl (o_assign (.v _) rfl) ?_
        refine RG.op _ _ rfl rfl (o_assign (.v _) rfl) ?_
        refine RG.nil (h10_ _ ?_)
        refine WC.ret ?_
        exact Ends.r3 rfl (.tmp _ (.v _) rfl) (.tmp _ (.v _) rfl) (.tmp _ (.v _) rfl) (.v _) (.v _) (.v _) (vr_eq (by rw [getF_at b k (by omega) hall]; exact getF_end _ _ _ (by omega) (by rw [nats_len]; omega)) rfl)
      ·
        have p4 := c4
        try simp only [CN] at p4
        refine WC.skip (h8_ _ ?_)
        refine WC.seq fun Fh11_ h11_ => ?_
        refine WC.seq fun Fh12_ h12_ => ?_
        refine WC.region ?_
        refine RG.op _ _ rfl rfl (o_move (.v _) rfl) ?_
        refine RG.op _ _ rfl rfl (o_eqI rfl rfl) ?_
        refine RG.op _ _ rfl rfl (o_move (.v _) rfl) ?_
        refine RG.opg1 _ _ _ _ _ rfl rfl rfl rfl rfl (fun hb => o_move (.v _) rfl) ?_
        refine RG.opg1 _ _ _ _ _ rfl rfl rfl rfl rfl (fun hb => o_eqI (gdT hb) rfl) ?_
        refine RG.opg1 _ _ _ _ _ rfl rfl rfl rfl rfl (fun hb => o_move (.v _) (gdT hb)) ?_
        refine RG.opg2 _ _ _ _ _ _ rfl rfl rfl rfl rfl (fun hb => o_move (.rd _ _) rfl) ?_
        refine RG.opg2 _ _ _ _ _ _ rfl rfl rfl rfl rfl (fun hb => o_ixn_MZ (0 : UInt8) 9 (gdT hb) rfl Try.underlying22 (sz_of Ty.inf5) (by first | omega | exact ubyte _ | (have hb' := hb; simp only [CN] at hb'; omega) | (simp only [LS] <;> omega) | (have hb' := hb; simp only [CN] at hb'; simp only [LS]; omega)) (by first | omega | exact ubyte _ | (have hb' := hb; simp only [CN] at hb'; omega) | (simp only [LS] <;> omega) | (have hb' := hb; simp only [CN] at hb'; simp only [LS]; omega))) ?_
        refine RG.opg2 _ _ _ _ _ _ rfl rfl rfl rfl rfl (fun hb => o_load_adr (gdT hb) Try.underlying5 rfl rfl) ?_
        refine RG.opg2 _ _ _ _ _ _ rfl rfl rfl rfl rfl (fun hb => o_gtB (b := 1) (gdT hb) rfl) ?_
        refine RG.opg1 _ _ _ _ _ rfl rfl rfl rfl rfl (fun hb => o_and _ _ (gdT hb) (gdS hb) rfl) ?_
        refine RG.op _ _ rfl rfl (o_or _ _ rfl rfl rfl) ?_
        refine RG.op _ _ rfl rfl (o_move (.v _) rfl) ?_
        refine RG.opg1 _ _ _ _ _ rfl rfl rfl rfl rfl (fun hb => o_move (.v _) rfl) ?_
        refine RG.opg1 _ _ _ _ _ rfl rfl rfl rfl rfl (fun hb => o_gtI (gdT hb) rfl) ?_
        refine RG.opg1 _ _ _ _ _ rfl rfl rfl rfl rfl (fun hb => o_move (.v _) (gdT hb)) ?_
        refine RG.opg2 _ _ _ _ _ _ rfl rfl rfl rfl rfl (fun hb => o_move (.rd _ _) rfl) ?_
        refine RG.opg2 _ _ _ _ _ _ rfl rfl rfl rfl rfl (fun hb => o_move (.v _) rfl) ?_
        refine RG.opg2 _ _ _ _ _ _ rfl rfl rfl rfl rfl (fun hb => o_ixn_MZ (0 : UInt8) k (gdT hb) (gdT hb) Try.underlying22 (sz_of Ty.inf5) (by first | omega | exact ubyte _ | (have hb' := hb; simp only [CN] at hb'; omega) | (simp only [LS] <;> omega) | (have hb' := hb; simp only [CN] at hb'; simp only [LS]; omega)) (by first | omega | exact ubyte _ | (have hb' := hb; simp only [CN] at hb'; omega) | (simp only [LS] <;> omega) | (have hb' := hb; simp only [CN] at hb'; simp only [LS]; omega))) ?_
        refine RG.opg2 _ _ _ _ _ _ rfl rfl rfl rfl rfl (fun hb => o_load_adr (gdT hb) Try.underlying5 rfl rfl) ?_
        refine RG.opg2 _ _ _ _ _ _ rfl rfl rfl rfl rfl (fun hb => o_eqB (b := 0) (gdT hb) rfl) ?_
        refine RG.opg1 _ _ _ _ _ rfl rfl rfl rfl rfl (fun hb => o_and _ _ (gdT hb) (gdS hb) rfl) ?_
        refine RG.op _ _ rfl rfl (o_or _ _ rfl rfl rfl) ?_
        refine RG.nil (h12_ _ ?_)
        refine WC.cond _ rfl (fun c6 => ?_) (fun c6 => ?_)
        ·
          have p6 := c6
          try simp only [CN] at p6
          refine WC.seq fun Fh13_ h13_ => ?_
          refine WC.region ?_
          refine RG.op _ _ rfl rfl (o_assign (N64 0) rfl) ?_
          refine RG.op _ _ rfl rfl (o_assign (.v _) rfl) ?_
          refine RG.op _ _ rfl rfl (o_assign (.v _) rfl) ?_
          refine RG.nil (h13_ _ ?_)
          refine WC.ret ?_
          exact Ends.r3 rfl (.tmp _ (.v _) rfl) (.tmp _ (.v _) rfl) (.tmp _ (.v _) rfl) (.v _) (.v _) (.v _) (vr_eq (form7 hk hkb hall (by omega) (by have a := p6; have e1 : (1 : UInt8).toNat = 1 := rfl; rw [e1] at a; rcases a with (a | a) | a; exact .inl (.inl (by omega)); exact .inl (.inr ⟨by omega, a.2⟩); exact .inr ⟨by omega, a.2⟩)) rfl)
        ·
          have p6 := c6
          try simp only [CN] at p6
          have hkl : k < b.length := (by have a := p4; have c := p6.1.1; omega)
          have hk9 : k < 10 := (by have c := p6.1.1; omega)
          have h9 : k = 9 → (b.getD k 0).toNat ≤ 1 := fun h => (by subst h; have c := p6.1.2; have e1 : (1 : UInt8).toNat = 1 := rfl; omega)
          refine WC.skip (h11_ _ ?_)
          refine WC.seq fun Fh14_ h14_ => ?_
          refine WC.region ?_
          refine RG.op _ _ rfl rfl (o_assign (N64 0) rfl) ?_
          refine RG.nil (h14_ _ ?_)
          refine WC.seq fun Fh15_ h15_ => ?_
          refine WC.seq fun Fh16_ h16_ => ?_
          refine WC.region ?_
          refine RG.op _ _ rfl rfl (o_move (.v _) rfl) ?_
          refine RG.op _ _ rfl rfl (o_assign (.v _) rfl) ?_
          refine RG.nil (h16_ _ ?_)
          refine WC.block ?_
          refine WC.loopU [6, 7, 57, 58, 59, 60, 61, 62, 63, 64, 65, 66, 67, 68, 69] (fun (j : Nat) => [(7, I64 ((k : Int) - j)), (6, N64 (tl (nats b) (k + 1 - j) j))]) (fun (j : Nat) => []) (fun (j : Nat) => j ≤ k + 1) (fun (j : Nat) => k + 1 - j) 0 (by first | omega | exact ubyte _ | (simp only [LS] <;> omega)) ?lpa17_ ?lpb18_
          case lpa17_ =>
            exact .mk' ⟨⟨congrArg I64 (by omega), .v _⟩, ⟨rfl, .v _⟩, trivial⟩ (same_refl _ _) (rfl) (by repeat (first | exact trivial | refine And.intro (Nat.le_refl _) ?_ | refine And.intro trivial ?_ | refine And.intro (by show _ ≤ _; (first | omega | (simp only [LS] <;> omega))) ?_)) (by repeat (first | exact trivial | refine And.intro (one_ok (.own _ _ _ _ _ (Nat.le_refl _))) ?_ | refine And.intro (okp (by repeat (first | exact pu_bytes _ | exact pu_nil | exact pu_vs rfl | exact pu_map (fun _ => .v _) _ | exact pu_vals _ | refine pu_app ?_ ?_ | refine pu_cons (by exact pu_of rfl) ?_))) ?_))
          case lpb18_ =>
            rintro j hI
            refine WC.seq fun Fh19_ h19_ => ?_
            refine WC.seq fun Fh20_ h20_ => ?_
            refine WC.region ?_
            refine RG.op _ _ rfl rfl (o_move (.v _) rfl) ?_
            refine RG.op _ _ rfl rfl (o_geI rfl rfl) ?_
            refine RG.nil (h20_ _ ?_)
            refine WC.cond _ rfl (fun c10 => ?_) (fun c10 => ?_)
            ·
              have p10 := c10
              try simp only [CN] at p10
              have hjk : j ≤ k := by omega
              refine WC.skip (h19_ _ ?_)
              refine WC.seq fun Fh21_ h21_ => ?_
              refine WC.block ?_
              refine WC.region ?_
              refine RG.op _ _ rfl rfl (o_move (.v _) rfl) ?_
              refine RG.op _ _ rfl rfl (o_mulU (b := 128) rfl rfl) ?_
              refine RG.op _ _ rfl rfl (o_move (.rd _ _) rfl) ?_
              refine RG.op _ _ rfl rfl (o_move (.v _) rfl) ?_
              refine RG.op _ _ rfl rfl (o_ixn_M (k - j) rfl rfl Try.underlying22 (sz_of Ty.inf5) (by omega) (by omega)) ?_
              refine RG.op _ _ rfl rfl (o_load_adr rfl Try.underlying5 rfl rfl) ?_
              refine RG.op _ _ rfl rfl (o_rem128 rfl rfl) ?_
              refine RG.op _ _ rfl rfl (o_BtoU rfl Try.underlying5 Try.underlying72) ?_
              refine RG.op _ _ rfl rfl (o_addU rfl rfl) ?_
              refine RG.op _ _ rfl rfl (o_assign (.v _) rfl) ?_
              refine RG.nil (h21_ _ ?_)
              refine WC.region ?_
              refine RG.op _ _ rfl rfl (o_move (.v _) rfl) ?_
              refine RG.op _ _ rfl rfl (o_sub rfl rfl (by first | omega | exact ubyte _ | (simp only [LS] <;> omega)) (by first | omega | exact ubyte _ | (simp only [LS] <;> omega))) ?_
              refine RG.op _ _ rfl rfl (o_assign (.v _) rfl) ?_
              refine RG.nil (Exists.intro (j + 1) ⟨by first | omega | (simp only [LS] <;> omega), by first | omega | (simp only [LS] <;> omega), ?_⟩)
              exact .mk' ⟨⟨congrArg I64 (by omega), .v _⟩, ⟨congrArg N64 (tl_stepB (by omega) hkl hk9 h9), .v _⟩, trivial⟩ (by repeat (first | with_reducible exact same_refl _ _ | with_reducible refine same_updO (by with_unfolding_all exact rfl) ?_ | with_reducible refine same_updN ?_ | with_reducible refine same_updL (by with_unfolding_all exact rfl) ?_ | with_reducible refine same_forget (by with_unfolding_all exact rfl) ?_)) (rfl) (by repeat (first | exact trivial | refine And.intro (Nat.le_refl _) ?_ | refine And.intro trivial ?_ | refine And.intro (by show _ ≤ _; (first | omega | (simp only [LS] <;> omega))) ?_)) (by repeat (first | exact trivial | refine And.intro (one_ok (.own _ _ _ _ _ (Nat.le_refl _))) ?_ | refine And.intro (okp (by repeat (first | exact pu_bytes _ | exact pu_nil | exact pu_vs rfl | exact pu_map (fun _ => .v _) _ | exact pu_vals _ | refine pu_app ?_ ?_ | refine pu_cons (by exact pu_of rfl) ?_))) ?_))
            ·
              have p10 := c10
              try simp only [CN] at p10
              refine WC.exit (h15_ _ ?_)
              refine WC.seq fun Fh22_ h22_ => ?_
              refine WC.region ?_
              refine RG.op _ _ rfl rfl (o_move (.v _) rfl) ?_
              refine RG.op _ _ rfl rfl (o_move (.v _) rfl) ?_
              refine RG.op _ _ rfl rfl (o_add rfl rfl (by first | omega | exact ubyte _ | (simp only [LS] <;> omega)) (by first | omega | exact ubyte _ | (simp only [LS] <;> omega))) ?_
              refine RG.op _ _ rfl rfl (o_assign (.v _) rfl) ?_
              refine RG.op _ _ rfl rfl (o_assign (.v _) rfl) ?_
              refine RG.op _ _ rfl rfl (o_assign (.v _) rfl) ?_
              refine RG.nil (h22_ _ ?_)
              refine WC.ret ?_
              exact Ends.r3 rfl (.tmp _ (.v _) rfl) (.tmp _ (.v _) rfl) (.tmp _ (.v _) rfl) (.v _) (.v _) (.v _) (vr_eq (by rw [show j = k + 1 by omega, Nat.sub_self]; exact done7 hk9 hkl hall (by have a := p2; have e1 : (128 : UInt8).toNat = 128 := rfl; omega) h9 (fun h => by have a := p6.2; rcases a with a | a; omega; exact a h.2)) (by omega))
end Go.Proofs.Ytbdibcpenihpdaa
