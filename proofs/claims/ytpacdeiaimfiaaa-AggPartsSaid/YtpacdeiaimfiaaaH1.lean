/-
  Layer agg: how long a number is. No condition.
-/
import Derived.Test.YtpacdeiaimfiaaaRows
import Derived.Test.YtpacdeiaimfiaaaTy
import Derived.Test.YtpacdeiaimfiaaaDlU
import Derived.Test.YtpacdeiaimfiaaaDlX
import Derived.Test.YtpacdeiaimfiaaaDlU
set_option linter.unusedSimpArgs false
set_option linter.unusedVariables false
namespace Go.Proofs.Ytpacdeiaimfiaaa
open Go.RowKit Go.DL

theorem Ty.cal52 : DL.Callee Try.prog 52 := DL.Callee.of Try.func52 (by kernel_rfl) (by kernel_rfl)
theorem Ty.cal53 : DL.Callee Try.prog 53 := DL.Callee.of Try.func53 (by kernel_rfl) (by kernel_rfl)
theorem Ty.cal54 : DL.Callee Try.prog 54 := DL.Callee.of Try.func54 (by kernel_rfl) (by kernel_rfl)
def lenTab : List UInt8 := [0, 1] ++ List.replicate 2 2 ++ List.replicate 4 3 ++ List.replicate 8 4 ++ List.replicate 16 5 ++ List.replicate 32 6 ++ List.replicate 64 7 ++ List.replicate 128 8
theorem len_tab : ∀ n, n < 256 → n ≠ 0 → (lenTab.getD n 0).toNat = Nat.log2 n + 1 := by
  decide +kernel
theorem len_len : lenTab.length = 256 := by decide +kernel
theorem ubi (c : UInt8) : (c.toNat : Int) = (c.toNat : Nat) := rfl
theorem ub256 (c : UInt8) : c.toNat < 256 := c.toNat_lt
theorem log2_up {x k P y : Nat} (hP : P = 2 ^ k) (hy : y = x / P) (h0 : y ≠ 0) : Nat.log2 x = k + Nat.log2 y := by
  have hpos : 0 < P := by rw [hP]; exact Nat.pow_pos (by decide)
  have h1 : P * y ≤ x := by rw [hy]; exact Nat.mul_div_le _ _
  have h2 : x < P * (y + 1) := by rw [hy]; exact Nat.lt_mul_div_succ _ hpos
  have hx : x ≠ 0 := by rintro rfl; simp at hy; exact h0 hy
  obtain ⟨a, b⟩ := (Nat.log2_eq_iff h0).1 rfl
  refine (Nat.log2_eq_iff hx).2 ⟨?_, ?_⟩
  · rw [Nat.pow_add, ← hP]; exact Nat.le_trans (Nat.mul_le_mul_left _ a) h1
  · rw [Nat.add_assoc, Nat.pow_add, ← hP]; exact Nat.lt_of_lt_of_le h2 (Nat.mul_le_mul_left _ b)
theorem len_fin {x k P y : Nat} {c : Int} (hc : c = k) (hP : P = 2 ^ k) (hy : y = x / P) (h0 : y ≠ 0) (hb : y < 256) : c + ((lenTab.getD (UInt8.ofNat y).toNat 0).toNat : Int) = (Nat.log2 x : Int) + 1 := by
  have e : (UInt8.ofNat y).toNat = y := by rw [UInt8.toNat_ofNat']; exact Nat.mod_eq_of_lt hb
  rw [e, len_tab y hb h0, log2_up hP hy h0, hc]; omega
theorem add_lo (c : Int) (u : UInt8) (h : 0 ≤ c ∧ c ≤ 100) : -9223372036854775808 ≤ c + u.toNat ∧ c + u.toNat ≤ 9223372036854775807 := by
  have := u.toNat_lt; omega
set_option maxHeartbeats 4000000 in
theorem len_c (x : Nat) (h0 : x ≠ 0) (hx : x < 18446744073709551616) : Fun Try.prog 54 [N64 x] (· = I64 (Nat.log2 x + 1)) := by
  refine Fun.of Try.func54 rfl (Nat.le_of_ble_eq_true rfl) fun C => ?_
  refine WC.seq fun Fh1_ h1_ => ?_
  refine WC.region ?_
  refine RG.op _ _ rfl rfl (o_assign (.v _) rfl) ?_
  refine RG.nil (h1_ _ ?_)
  refine WC.seq fun Fh2_ h2_ => ?_
  refine WC.seq fun Fh3_ h3_ => ?_
  refine WC.region ?_
  refine RG.op _ _ rfl rfl (o_move (.v _) rfl) ?_
  refine RG.op _ _ rfl rfl (o_geI rfl rfl) ?_
  refine RG.nil (h3_ _ ?_)
  refine WC.cond _ rfl (fun c1 => ?_) (fun c1 => ?_)
  ·
    have p1 := c1
    try simp only [CN] at p1
    refine WC.seq fun Fh4_ h4_ => ?_
    refine WC.region ?_
    refine RG.op _ _ rfl rfl (o_move (.v _) rfl) ?_
    refine RG.op _ _ rfl rfl (o_shrU (n := 32) rfl rfl (by show _ ≤ 64; (first | omega | (simp only [LS] <;> omega)))) ?_
    refine RG.op _ _ rfl rfl (o_assign (.v _) rfl) ?_
    refine RG.nil (h4_ _ ?_)
    refine WC.region ?_
    refine RG.op _ _ rfl rfl (o_assign (.v _) rfl) ?_
    refine RG.nil (h2_ _ ?_)
    refine WC.seq fun Fh5_ h5_ => ?_
    refine WC.seq fun Fh6_ h6_ => ?_
    refine WC.region ?_
    refine RG.op _ _ rfl rfl (o_move (.v _) rfl) ?_
    refine RG.op _ _ rfl rfl (o_geI rfl rfl) ?_
    refine RG.nil (h6_ _ ?_)
    refine WC.cond _ rfl (fun c4 => ?_) (fun c4 => ?_)
    ·
      have p4 := c4
      try simp only [CN] at p4
      refine WC.seq fun Fh7_ h7_ => ?_
      refine WC.region ?_
      refine RG.op _ _ rfl rfl (o_move (.v _) rfl) ?_
      refine RG.op _ _ rfl rfl (o_shrU (n := 16) rfl rfl (by show _ ≤ 64; (first | omega | (simp only [LS] <;> omega)))) ?_
      refine RG.op _ _ rfl rfl (o_assign (.v _) rfl) ?_
      refine RG.nil (h7_ _ ?_)
      refine WC.region ?_
      refine RG.op _ _ rfl rfl (o_move (.v _) rfl) ?_
      refine RG.op _ _ rfl rfl (o_add rfl rfl (by first | omega | exact ubyte _ | (simp only [LS] <;> omega)) (by first | omega | exact ubyte _ | (simp only [LS] <;> omega))) ?_
      refine RG.op _ _ rfl rfl (o_assign (.v _) rfl) ?_
      refine RG.nil (h5_ _ ?_)
      refine WC.seq fun Fh8_ h8_ => ?_
      refine WC.seq fun Fh9_ h9_ => ?_
      refine WC.region ?_
      refine RG.op _ _ rfl rfl (o_move (.v _) rfl) ?_
      refine RG.op _ _ rfl rfl (o_geI rfl rfl) ?_
      refine RG.nil (h9_ _ ?_)
      refine WC.cond _ rfl (fun c7 => ?_) (fun c7 => ?_)
      ·
        have p7 := c7
        try simp only [CN] at p7
        refine WC.seq fun Fh10_ h10_ => ?_
        refine WC.region ?_
        refine RG.op _ _ rfl rfl (o_move (.v _) rfl) ?_
        refine RG.op _ _ rfl rfl (o_shrU (n := 8) rfl rfl (by show _ ≤ 64; (first | omega | (simp only [LS] <;> omega)))) ?_
        refine RG.op _ _ rfl rfl (o_assign (.v _) rfl) ?_
        refine RG.nil (h10_ _ ?_)
        refine WC.region ?_
        refine RG.op _ _ rfl rfl (o_move (.v _) rfl) ?_
        refine RG.op _ _ rfl rfl (o_add rfl rfl (by first | omega | exact ubyte _ | (simp only [LS] <;> omega)) (by first | omega | exact ubyte _ | (simp only [LS] <;> omega))) ?_
        refine RG.op _ _ rfl rfl (o_assign (.v _) rfl) ?_
        refine RG.nil (h8_ _ ?_)
        refine WC.seq fun Fh11_ h11_ => ?_
        refine WC.region ?_
        refine RG.op _ _ rfl rfl (o_move (.v _) rfl) ?_
        refine RG.op _ _ rfl rfl (o_move (.v _) rfl) ?_
        refine RG.op _ _ rfl rfl (o_UtoB rfl Try.underlying54 Try.underlying5) ?_
        refine RG.op _ _ rfl rfl (o_ixSZ (l := lenTab) _ rfl rfl Try.underlying9 (ubi _) (by rw [len_len]; exact ub256 _)) ?_
        refine RG.op _ _ rfl rfl (o_BtoI rfl Try.underlying5 Try.underlying3) ?_
        refine RG.op _ _ rfl rfl (o_add rfl rfl (add_lo _ _ (by decide)).1 (add_lo _ _ (by decide)).2) ?_
        refine RG.op _ _ rfl rfl (o_assign (.v _) rfl) ?_
        refine RG.nil (h11_ _ ?_)
        refine WC.ret ?_
        exact Ends.r1 rfl (.tmp _ (.v _) rfl) (.v _) (congrArg I64 (by first | exact len_fin (k := 56) (P := 72057594037927936) rfl rfl (by omega) (by omega) (by omega) | exact len_fin (k := 48) (P := 281474976710656) rfl rfl (by omega) (by omega) (by omega) | exact len_fin (k := 40) (P := 1099511627776) rfl rfl (by omega) (by omega) (by omega) | exact len_fin (k := 32) (P := 4294967296) rfl rfl (by omega) (by omega) (by omega) | exact len_fin (k := 24) (P := 16777216) rfl rfl (by omega) (by omega) (by omega) | exact len_fin (k := 16) (P := 65536) rfl rfl (by omega) (by omega) (by omega) | exact len_fin (k := 8) (P := 256) rfl rfl (by omega) (by omega) (by omega) | exact len_fin (k := 0) (P := 1) rfl rfl (by omega) (by omega) (by omega)))
      ·
        have p7 := c7
        try simp only [CN] at p7
        refine WC.skip (h8_ _ ?_)
        refine WC.seq fun Fh12_ h12_ => ?_
        refine WC.region ?_
        refine RG.op _ _ rfl rfl (o_move (.v _) rfl) ?_
        refine RG.op _ _ rfl rfl (o_move (.v _) rfl) ?_
        refine RG.op _ _ rfl rfl (o_UtoB rfl Try.underlying54 Try.underlying5) ?_
        refine RG.op _ _ rfl rfl (o_ixSZ (l := lenTab) _ rfl rfl Try.underlying9 (ubi _) (by rw [len_len]; exact ub256 _)) ?_
        refine RG.op _ _ rfl rfl (o_BtoI rfl Try.underlying5 Try.underlying3) ?_
        refine RG.op _ _ rfl rfl (o_add rfl rfl (add_lo _ _ (by decide)).1 (add_lo _ _ (by decide)).2) ?_
        refine RG.op _ _ rfl rfl (o_assign (.v _) rfl) ?_
        refine RG.nil (h12_ _ ?_)
        refine WC.ret ?_
        exact Ends.r1 rfl (.tmp _ (.v _) rfl) (.v _) (congrArg I64 (by first | exact len_fin (k := 56) (P := 72057594037927936) rfl rfl (by omega) (by omega) (by omega) | exact len_fin (k := 48) (P := 281474976710656) rfl rfl (by omega) (by omega) (by omega) | exact len_fin (k := 40) (P := 1099511627776) rfl rfl (by omega) (by omega) (by omega) | exact len_fin (k := 32) (P := 4294967296) rfl rfl (by omega) (by omega) (by omega) | exact len_fin (k := 24) (P := 16777216) rfl rfl (by omega) (by omega) (by omega) | exact len_fin (k := 16) (P := 65536) rfl rfl (by omega) (by omega) (by omega) | exact len_fin (k := 8) (P := 256) rfl rfl (by omega) (by omega) (by omega) | exact len_fin (k := 0) (P := 1) rfl rfl (by omega) (by omega) (by omega)))
    ·
      have p4 := c4
      try simp only [CN] at p4
      refine WC.skip (h5_ _ ?_)
      refine WC.seq fun Fh13_ h13_ => ?_
      refine WC.seq fun Fh14_ h14_ => ?_
      refine WC.region ?_
      refine RG.op _ _ rfl rfl (o_move (.v _) rfl) ?_
      refine RG.op _ _ rfl rfl (o_geI rfl rfl) ?_
      refine RG.nil (h14_ _ ?_)
      refine WC.cond _ rfl (fun c7 => ?_) (fun c7 => ?_)
      ·
        have p7 := c7
        try simp only [CN] at p7
        refine WC.seq fun Fh15_ h15_ => ?_
        refine WC.region ?_
        refine RG.op _ _ rfl rfl (o_move (.v _) rfl) ?_
        refine RG.op _ _ rfl rfl (o_shrU (n := 8) rfl rfl (by show _ ≤ 64; (first | omega | (simp only [LS] <;> omega)))) ?_
        refine RG.op _ _ rfl rfl (o_assign (.v _) rfl) ?_
        refine RG.nil (h15_ _ ?_)
        refine WC.region ?_
        refine RG.op _ _ rfl rfl (o_move (.v _) rfl) ?_
        refine RG.op _ _ rfl rfl (o_add rfl rfl (by first | omega | exact ubyte _ | (simp only [LS] <;> omega)) (by first | omega | exact ubyte _ | (simp only [LS] <;> omega))) ?_
        refine RG.op _ _ rfl rfl (o_assign (.v _) rfl) ?_
        refine RG.nil (h13_ _ ?_)
        refine WC.seq fun Fh16_ h16_ => ?_
        refine WC.region ?_
        refine RG.op _ _ rfl rfl (o_move (.v _) rfl) ?_
        refine RG.op _ _ rfl rfl (o_move (.v _) rfl) ?_
        refine RG.op _ _ rfl rfl (o_UtoB rfl Try.underlying54 Try.underlying5) ?_
        refine RG.op _ _ rfl rfl (o_ixSZ (l := lenTab) _ rfl rfl Try.underlying9 (ubi _) (by rw [len_len]; exact ub256 _)) ?_
        refine RG.op _ _ rfl rfl (o_BtoI rfl Try.underlying5 Try.underlying3) ?_
        refine RG.op _ _ rfl rfl (o_add rfl rfl (add_lo _ _ (by decide)).1 (add_lo _ _ (by decide)).2) ?_
        refine RG.op _ _ rfl rfl (o_assign (.v _) rfl) ?_
        refine RG.nil (h16_ _ ?_)
        refine WC.ret ?_
        exact Ends.r1 rfl (.tmp _ (.v _) rfl) (.v _) (congrArg I64 (by first | exact len_fin (k := 56) (P := 72057594037927936) rfl rfl (by omega) (by omega) (by omega) | exact len_fin (k := 48) (P := 281474976710656) rfl rfl (by omega) (by omega) (by omega) | exact len_fin (k := 40) (P := 1099511627776) rfl rfl (by omega) (by omega) (by omega) | exact len_fin (k := 32) (P := 4294967296) rfl rfl (by omega) (by omega) (by omega) | exact len_fin (k := 24) (P := 16777216) rfl rfl (by omega) (by omega) (by omega) | exact len_fin (k := 16) (P := 65536) rfl rfl (by omega) (by omega) (by omega) | exact len_fin (k := 8) (P := 256) rfl rfl (by omega) (by omega) (by omega) | exact len_fin (k := 0) (P := 1) rfl rfl (by omega) (by omega) (by omega)))
      ·
        have p7 := c7
        try simp only [CN] at p7
        refine WC.skip (h13_ _ ?_)
        refine WC.seq fun Fh17_ h17_ => ?_
        refine WC.region ?_
        refine RG.op _ _ rfl rfl (o_move (.v _) rfl) ?_
        refine RG.op _ _ rfl rfl (o_move (.v _) rfl) ?_
        refine RG.op _ _ rfl rfl (o_UtoB rfl Try.underlying54 Try.underlying5) ?_
        refine RG.op _ _ rfl rfl (o_ixSZ (l := lenTab) _ rfl rfl Try.underlying9 (ubi _) (by rw [len_len]; exact ub256 _)) ?_
        refine RG.op _ _ rfl rfl (o_BtoI rfl Try.underlying5 Try.underlying3) ?_
        refine RG.op _ _ rfl rfl (o_add rfl rfl (add_lo _ _ (by decide)).1 (add_lo _ _ (by decide)).2) ?_
        refine RG.op _ _ rfl rfl (o_assign (.v _) rfl) ?_
        refine RG.nil (h17_ _ ?_)
        refine WC.ret ?_
        exact Ends.r1 rfl (.tmp _ (.v _) rfl) (.v _) (congrArg I64 (by first | exact len_fin (k := 56) (P := 72057594037927936) rfl rfl (by omega) (by omega) (by omega) | exact len_fin (k := 48) (P := 281474976710656) rfl rfl (by omega) (by omega) (by omega) | exact len_fin (k := 40) (P := 1099511627776) rfl rfl (by omega) (by omega) (by omega) | exact len_fin (k := 32) (P := 4294967296) rfl rfl (by omega) (by omega) (by omega) | exact len_fin (k := 24) (P := 16777216) rfl rfl (by omega) (by omega) (by omega) | exact len_fin (k := 16) (P := 65536) rfl rfl (by omega) (by omega) (by omega) | exact len_fin (k := 8) (P := 256) rfl rfl (by omega) (by omega) (by omega) | exact len_fin (k := 0) (P := 1) rfl rfl (by omega) (by omega) (by omega)))
  ·
    have p1 := c1
    try simp only [CN] at p1
    refine WC.skip (h2_ _ ?_)
    refine WC.seq fun Fh18_ h18_ => ?_
    refine WC.seq fun Fh19_ h19_ => ?_
    refine WC.region ?_
    refine RG.op _ _ rfl rfl (o_move (.v _) rfl) ?_
    refine RG.op _ _ rfl rfl (o_geI rfl rfl) ?_
    refine RG.nil (h19_ _ ?_)
    refine WC.cond _ rfl (fun c4 => ?_) (fun c4 => ?_)
    ·
      have p4 := c4
      try simp only [CN] at p4
      refine WC.seq fun Fh20_ h20_ => ?_
      refine WC.region ?_
      refine RG.op _ _ rfl rfl (o_move (.v _) rfl) ?_
      refine RG.op _ _ rfl rfl (o_shrU (n := 16) rfl rfl (by show _ ≤ 64; (first | omega | (simp only [LS] <;> omega)))) ?_
      refine RG.op _ _ rfl rfl (o_assign (.v _) rfl) ?_
      refine RG.nil (h20_ _ ?_)
      refine WC.region ?_
      refine RG.op _ _ rfl rfl (o_move (.v _) rfl) ?_
      refine RG.op _ _ rfl rfl (o_add rfl rfl (by first | omega | exact ubyte _ | (simp only [LS] <;> omega)) (by first | omega | exact ubyte _ | (simp only [LS] <;> omega))) ?_
      refine RG.op _ _ rfl rfl (o_assign (.v _) rfl) ?_
      refine RG.nil (h18_ _ ?_)
      refine WC.seq fun Fh21_ h21_ => ?_
      refine WC.seq fun Fh22_ h22_ => ?_
      refine WC.region ?_
      refine RG.op _ _ rfl rfl (o_move (.v _) rfl) ?_
      refine RG.op _ _ rfl rfl (o_geI rfl rfl) ?_
      refine RG.nil (h22_ _ ?_)
      refine WC.cond _ rfl (fun c7 => ?_) (fun c7 => ?_)
      ·
        have p7 := c7
        try simp only [CN] at p7
        refine WC.seq fun Fh23_ h23_ => ?_
        refine WC.region ?_
        refine RG.op _ _ rfl rfl (o_move (.v _) rfl) ?_
        refine RG.op _ _ rfl rfl (o_shrU (n := 8) rfl rfl (by show _ ≤ 64; (first | omega | (simp only [LS] <;> omega)))) ?_
        refine RG.op _ _ rfl rfl (o_assign (.v _) rfl) ?_
        refine RG.nil (h23_ _ ?_)
        refine WC.region ?_
        refine RG.op _ _ rfl rfl (o_move (.v _) rfl) ?_
        refine RG.op _ _ rfl rfl (o_add rfl rfl (by first | omega | exact ubyte _ | (simp only [LS] <;> omega)) (by first | omega | exact ubyte _ | (simp only [LS] <;> omega))) ?_
        refine RG.op _ _ rfl rfl (o_assign (.v _) rfl) ?_
        refine RG.nil (h21_ _ ?_)
        refine WC.seq fun Fh24_ h24_ => ?_
        refine WC.region ?_
        refine RG.op _ _ rfl rfl (o_move (.v _) rfl) ?_
        refine RG.op _ _ rfl rfl (o_move (.v _) rfl) ?_
        refine RG.op _ _ rfl rfl (o_UtoB rfl Try.underlying54 Try.underlying5) ?_
        refine RG.op _ _ rfl rfl (o_ixSZ (l := lenTab) _ rfl rfl Try.underlying9 (ubi _) (by rw [len_len]; exact ub256 _)) ?_
        refine RG.op _ _ rfl rfl (o_BtoI rfl Try.underlying5 Try.underlying3) ?_
        refine RG.op _ _ rfl rfl (o_add rfl rfl (add_lo _ _ (by decide)).1 (add_lo _ _ (by decide)).2) ?_
        refine RG.op _ _ rfl rfl (o_assign (.v _) rfl) ?_
        refine RG.nil (h24_ _ ?_)
        refine WC.ret ?_
        exact Ends.r1 rfl (.tmp _ (.v _) rfl) (.v _) (congrArg I64 (by first | exact len_fin (k := 56) (P := 72057594037927936) rfl rfl (by omega) (by omega) (by omega) | exact len_fin (k := 48) (P := 281474976710656) rfl rfl (by omega) (by omega) (by omega) | exact len_fin (k := 40) (P := 1099511627776) rfl rfl (by omega) (by omega) (by omega) | exact len_fin (k := 32) (P := 4294967296) rfl rfl (by omega) (by omega) (by omega) | exact len_fin (k := 24) (P := 16777216) rfl rfl (by omega) (by omega) (by omega) | exact len_fin (k := 16) (P := 65536) rfl rfl (by omega) (by omega) (by omega) | exact len_fin (k := 8) (P := 256) rfl rfl (by omega) (by omega) (by omega) | exact len_fin (k := 0) (P := 1) rfl rfl (by omega) (by omega) (by omega)))
      ·
        have p7 := c7
        try simp only [CN] at p7
        refine WC.skip (h21_ _ ?_)
        refine WC.seq fun Fh25_ h25_ => ?_
        refine WC.region ?_
        refine RG.op _ _ rfl rfl (o_move (.v _) rfl) ?_
        refine RG.op _ _ rfl rfl (o_move (.v _) rfl) ?_
        refine RG.op _ _ rfl rfl (o_UtoB rfl Try.underlying54 Try.underlying5) ?_
        refine RG.op _ _ rfl rfl (o_ixSZ (l := lenTab) _ rfl rfl Try.underlying9 (ubi _) (by rw [len_len]; exact ub256 _)) ?_
        refine RG.op _ _ rfl rfl (o_BtoI rfl Try.underlying5 Try.underlying3) ?_
        refine RG.op _ _ rfl rfl (o_add rfl rfl (add_lo _ _ (by decide)).1 (add_lo _ _ (by decide)).2) ?_
        refine RG.op _ _ rfl rfl (o_assign (.v _) rfl) ?_
        refine RG.nil (h25_ _ ?_)
        refine WC.ret ?_
        exact Ends.r1 rfl (.tmp _ (.v _) rfl) (.v _) (congrArg I64 (by first | exact len_fin (k := 56) (P := 72057594037927936) rfl rfl (by omega) (by omega) (by omega) | exact len_fin (k := 48) (P := 281474976710656) rfl rfl (by omega) (by omega) (by omega) | exact len_fin (k := 40) (P := 1099511627776) rfl rfl (by omega) (by omega) (by omega) | exact len_fin (k := 32) (P := 4294967296) rfl rfl (by omega) (by omega) (by omega) | exact len_fin (k := 24) (P := 16777216) rfl rfl (by omega) (by omega) (by omega) | exact len_fin (k := 16) (P := 65536) rfl rfl (by omega) (by omega) (by omega) | exact len_fin (k := 8) (P := 256) rfl rfl (by omega) (by omega) (by omega) | exact len_fin (k := 0) (P := 1) rfl rfl (by omega) (by omega) (by omega)))
    ·
      have p4 := c4
      try simp only [CN] at p4
      refine WC.skip (h18_ _ ?_)
      refine WC.seq fun Fh26_ h26_ => ?_
      refine WC.seq fun Fh27_ h27_ => ?_
      refine WC.region ?_
      refine RG.op _ _ rfl rfl (o_move (.v _) rfl) ?_
      refine RG.op _ _ rfl rfl (o_geI rfl rfl) ?_
      refine RG.nil (h27_ _ ?_)
      refine WC.cond _ rfl (fun c7 => ?_) (fun c7 => ?_)
      ·
        have p7 := c7
        try simp only [CN] at p7
        refine WC.seq fun Fh28_ h28_ => ?_
        refine WC.region ?_
        refine RG.op _ _ rfl rfl (o_move (.v _) rfl) ?_
        refine RG.op _ _ rfl rfl (o_shrU (n := 8) rfl rfl (by show _ ≤ 64; (first | omega | (simp only [LS] <;> omega)))) ?_
        refine RG.op _ _ rfl rfl (o_assign (.v _) rfl) ?_
        refine RG.nil (h28_ _ ?_)
        refine WC.region ?_
        refine RG.op _ _ rfl rfl (o_move (.v _) rfl) ?_
        refine RG.op _ _ rfl rfl (o_add rfl rfl (by first | omega | exact ubyte _ | (simp only [LS] <;> omega)) (by first | omega | exact ubyte _ | (simp only [LS] <;> omega))) ?_
        refine RG.op _ _ rfl rfl (o_assign (.v _) rfl) ?_
        refine RG.nil (h26_ _ ?_)
        refine WC.seq fun Fh29_ h29_ => ?_
        refine WC.region ?_
        refine RG.op _ _ rfl rfl (o_move (.v _) rfl) ?_
        refine RG.op _ _ rfl rfl (o_move (.v _) rfl) ?_
        refine RG.op _ _ rfl rfl (o_UtoB rfl Try.underlying54 Try.underlying5) ?_
        refine RG.op _ _ rfl rfl (o_ixSZ (l := lenTab) _ rfl rfl Try.underlying9 (ubi _) (by rw [len_len]; exact ub256 _)) ?_
        refine RG.op _ _ rfl rfl (o_BtoI rfl Try.underlying5 Try.underlying3) ?_
        refine RG.op _ _ rfl rfl (o_add rfl rfl (add_lo _ _ (by decide)).1 (add_lo _ _ (by decide)).2) ?_
        refine RG.op _ _ rfl rfl (o_assign (.v _) rfl) ?_
        refine RG.nil (h29_ _ ?_)
        refine WC.ret ?_
        exact Ends.r1 rfl (.tmp _ (.v _) rfl) (.v _) (congrArg I64 (by first | exact len_fin (k := 56) (P := 72057594037927936) rfl rfl (by omega) (by omega) (by omega) | exact len_fin (k := 48) (P := 281474976710656) rfl rfl (by omega) (by omega) (by omega) | exact len_fin (k := 40) (P := 1099511627776) rfl rfl (by omega) (by omega) (by omega) | exact len_fin (k := 32) (P := 4294967296) rfl rfl (by omega) (by omega) (by omega) | exact len_fin (k := 24) (P := 16777216) rfl rfl (by omega) (by omega) (by omega) | exact len_fin (k := 16) (P := 65536) rfl rfl (by omega) (by omega) (by omega) | exact len_fin (k := 8) (P := 256) rfl rfl (by omega) (by omega) (by omega) | exact len_fin (k := 0) (P := 1) rfl rfl (by omega) (by omega) (by omega)))
      ·
        have p7 := c7
        try simp only [CN] at p7
        refine WC.skip (h26_ _ ?_)
        refine WC.seq fun Fh30_ h30_ => ?_
        refine WC.region ?_
        refine RG.op _ _ rfl rfl (o_move (.v _) rfl) ?_
        refine RG.op _ _ rfl rfl (o_move (.v _) rfl) ?_
        refine RG.op _ _ rfl rfl (o_UtoB rfl Try.underlying54 Try.underlying5) ?_
        refine RG.op _ _ rfl rfl (o_ixSZ (l := lenTab) _ rfl rfl Try.underlying9 (ubi _) (by rw [len_len]; exact ub256 _)) ?_
        refine RG.op _ _ rfl rfl (o_BtoI rfl Try.underlying5 Try.underlying3) ?_
        refine RG.op _ _ rfl rfl (o_add rfl rfl (add_lo _ _ (by decide)).1 (add_lo _ _ (by decide)).2) ?_
        refine RG.op _ _ rfl rfl (o_assign (.v _) rfl) ?_
        refine RG.nil (h30_ _ ?_)
        refine WC.ret ?_
        exact Ends.r1 rfl (.tmp _ (.v _) rfl) (.v _) (congrArg I64 (by first | exact len_fin (k := 56) (P := 72057594037927936) rfl rfl (by omega) (by omega) (by omega) | exact len_fin (k := 48) (P := 281474976710656) rfl rfl (by omega) (by omega) (by omega) | exact len_fin (k := 40) (P := 1099511627776) rfl rfl (by omega) (by omega) (by omega) | exact len_fin (k := 32) (P := 4294967296) rfl rfl (by omega) (by omega) (by omega) | exact len_fin (k := 24) (P := 16777216) rfl rfl (by omega) (by omega) (by omega) | exact len_fin (k := 16) (P := 65536) rfl rfl (by omega) (by omega) (by omega) | exact len_fin (k := 8) (P := 256) rfl rfl (by omega) (by omega) (by omega) | exact len_fin (k := 0) (P := 1) rfl rfl (by omega) (by omega) (by omega)))
/-- How far a number is from the top. -/
def lzN (x : Nat) : Nat := 63 - Nat.log2 x
theorem log_le {x : Nat} (h0 : x ≠ 0) (hx : x < 18446744073709551616) : Nat.log2 x ≤ 63 := by
  have := (Nat.log2_lt h0 (k := 64)).2 hx; omega
set_option maxHeartbeats 4000000 in
theorem lz_c (x : Nat) (h0 : x ≠ 0) (hx : x < 18446744073709551616) : Fun Try.prog 53 [N64 x] (· = I64 (lzN x)) := by
  have h1 := log_le h0 hx
  refine Fun.of Try.func53 rfl (Nat.le_of_ble_eq_true rfl) fun C => ?_
  refine WC.seq fun Fh1_ h1_ => ?_
  refine WC.region ?_
  refine RG.op _ _ rfl rfl (o_assign (.v _) rfl) ?_
  refine RG.nil (h1_ _ ?_)
  refine WC.seq fun Fh2_ h2_ => ?_
  refine WC.region ?_
  refine RG.op _ _ rfl rfl (o_move (.v _) rfl) ?_
  refine RG.op _ _ rfl rfl (o_call Ty.cal54 (len_c _ h0 hx) ⟨.inl rfl, trivial⟩ (by exact pua rfl)) ?_
  refine RG.op _ _ rfl rfl (o_sub rfl rfl (by first | omega | exact ubyte _ | (simp only [LS] <;> omega)) (by first | omega | exact ubyte _ | (simp only [LS] <;> omega))) ?_
  refine RG.op _ _ rfl rfl (o_assign (.v _) rfl) ?_
  refine RG.nil (h2_ _ ?_)
  refine WC.ret ?_
  exact Ends.r1 rfl (.tmp _ (.v _) rfl) (.v _) (congrArg I64 (by unfold lzN; omega))
theorem lz_top {x : Nat} (h0 : x ≠ 0) (hx : x < 18446744073709551616) : 9223372036854775808 ≤ x * 2 ^ lzN x ∧ x * 2 ^ lzN x < 18446744073709551616 := by
  have h1 := log_le h0 hx
  obtain ⟨a, b⟩ := (Nat.log2_eq_iff h0).1 rfl
  have e1 : 2 ^ Nat.log2 x * 2 ^ lzN x = 9223372036854775808 := by rw [← Nat.pow_add, show Nat.log2 x + lzN x = 63 by unfold lzN; omega]
  have e2 : 2 ^ (Nat.log2 x + 1) * 2 ^ lzN x = 18446744073709551616 := by rw [← Nat.pow_add, show Nat.log2 x + 1 + lzN x = 64 by unfold lzN; omega]
  exact ⟨e1 ▸ Nat.mul_le_mul_right _ a, e2 ▸ Nat.mul_lt_mul_of_pos_right b (Nat.pow_pos (by decide))⟩
end Go.Proofs.Ytpacdeiaimfiaaa
