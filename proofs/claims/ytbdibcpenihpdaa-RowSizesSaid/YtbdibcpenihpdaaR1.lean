/-
  Layer row: models; the program's table of layouts; values put and got. No condition.
-/
import Derived.Test.YtbdibcpenihpdaaV3
import Derived.Test.YtbdibcpenihpdaaK6
import Derived.Test.YtbdibcpenihpdaaDlZa
import Derived.Test.YtbdibcpenihpdaaDlU
set_option linter.unusedSimpArgs false
set_option linter.unusedVariables false
namespace Go.Proofs.Ytbdibcpenihpdaa
open Go.RowKit Go.DL

/-- A number that is one. -/
def inI (v : Val) : Prop := -9223372036854775808 ≤ v.i ∧ v.i ≤ 9223372036854775807
def oneR (v : Val) : List UInt8 := if v.k = 1 then [UInt8.ofNat (v.i % 256).toNat] else if v.k = 2 then encB (zigN v.i) else if v.k = 3 then encB v.t.length ++ v.t else []
def z0 : Val := ⟨0, 0, []⟩
abbrev VR (r : Val × Nat × Nat) : D := .tup [VD r.1, I64 r.2.1, I64 r.2.2]
theorem vR_eq {a : Val} {b e : Nat} {m c : Int} {r : Val × Nat × Nat} (h : r = (a, b, e)) (hm : m = (b : Int)) (hc : c = (e : Int)) : D.tup [VD a, I64 m, I64 c] = VR r := by subst h hm hc; rfl
def boolR (b : List UInt8) : Val × Nat × Nat := if b.length = 0 then (z0, 0, 20) else if (1 : UInt8).toNat < (b.getD 0 0).toNat then (z0, 0, 21) else (⟨1, ((b.getD 0 0).toNat : Int), []⟩, 1, 0)
def intR (b : List UInt8) : Val × Nat × Nat := if (vget b).2.2 = 0 then (⟨2, zagI (vget b).1, []⟩, (vget b).2.1, 0) else (z0, 0, (vget b).2.2)
def textRR (b : List UInt8) : Val × Nat × Nat := if (vget b).2.2 = 0 then (if b.length - (vget b).2.1 < (vget b).1 then (z0, 0, 20) else (⟨3, 0, (b.drop (vget b).2.1).take (vget b).1⟩, (vget b).2.1 + (vget b).1, 0)) else (z0, 0, (vget b).2.2)
def getR (t : UInt8) (b : List UInt8) : Val × Nat × Nat := if t = 1 then boolR b else if t = 2 then intR b else textRR b
theorem vget_len {b : List UInt8} : (vget b).2.1 ≤ b.length ∧ (vget b).2.1 ≤ 10 := by
  obtain ⟨x, m, e⟩ : ∃ x m, (vget b).2.2 = 0 → vget b = (x, m, 0) := ⟨(vget b).1, (vget b).2.1, fun h => by rw [← h]⟩
  rcases vget_wrong b with h | h
  · have h1 := vget_back (e h)
    have h2 := congrArg List.length h1.2.2
    rw [List.length_take] at h2
    have h3 := vget_lt b
    rw [e h] at h3 ⊢
    have h4 := encB_len10 h3
    simp only at *
    omega
  · rw [h.2.1]; omega
theorem gd_at {b : List UInt8} {i : Nat} (h : i < b.length) : b[i] = b.getD i 0 := by simp [List.getD, h]
set_option maxHeartbeats 4000000 in
theorem pbool_c (b : List UInt8) (v : Val) (hb : b.length ≤ 10995116277760) : FunM Try.prog 48 [ow 0 b.length 1, VD v] [tb 5 b.length (bytesD b)] (fun o H' => o = .ret (ow 0 (b.length + 1) 1) ∧ H' = [tb 5 (b.length + 1) (bytesD (b ++ [UInt8.ofNat (v.i % 256).toNat]))]) := by
  refine FunM.of Try.func48 rfl (Nat.le_of_ble_eq_true rfl) fun C => ?_
  refine WC.seq fun Fh1_ h1_ => ?_
  refine WC.region ?_
  refine RG.op _ _ rfl rfl (o_box (d := .agg [_, _, _]) rfl rfl) ?_
  refine RG.op _ _ rfl rfl (o_assign (.v _) rfl) ?_
  refine RG.nil (h1_ _ ?_)
  refine WC.seq fun Fh2_ h2_ => ?_
  refine WC.region ?_
  refine RG.op _ _ rfl rfl (o_move (.own _ _ _ _ _) rfl) ?_
  refine RG.op _ _ rfl rfl (o_fld_ptr rfl Try.underlying37 rfl (sz_of Ty.inf2) (by decide)) ?_
  refine RG.op _ _ rfl rfl (o_load_ptr rfl Try.underlying2 rfl rfl rfl rfl) ?_
  refine RG.op _ _ rfl rfl (o_ItoB rfl Try.underlying2 Try.underlying5) ?_
  refine RG.op _ _ rfl rfl (o_litP (cs := [(.v _)]) Try.underlying22 Ty.inf5 rfl rfl rfl rfl (by repeat (first | exact pu_bytes _ | exact pu_nil | exact pu_vs rfl | exact pu_map (fun _ => .v _) _ | exact pu_vals _ | refine pu_app ?_ ?_ | refine pu_cons (by exact pu_of rfl) ?_))) ?_
  refine RG.op _ _ rfl rfl (o_appT (Elem.of Try.underlying22 Ty.inf5 rfl (by decide)) rfl rfl rfl (by first | omega | exact ubyte _ | (simp only [LS] <;> omega)) (by first | omega | exact ubyte _ | (simp only [LS] <;> omega)) (by repeat (first | exact bytesD_one _ | exact one_nil | exact one_map (fun _ => rfl) _ | exact one_vals _ | refine one_app ?_ ?_ | refine one_cons rfl ?_)) (by first | omega | exact ubyte _ | (simp only [LS] <;> omega)) (by first | omega | exact ubyte _ | (simp only [LS] <;> omega))) ?_
  refine RG.op _ _ rfl rfl (o_assign (.own _ _ _ _ _) rfl) ?_
  refine RG.nil (h2_ _ ?_)
  refine WC.ret ?_
  first | refine endM.mk 1 [_] rfl rfl (by repeat (first | exact trivial | refine And.intro (okp (by repeat (first | exact pu_bytes _ | exact pu_nil | exact pu_vs rfl | exact pu_map (fun _ => .v _) _ | exact pu_vals _ | refine pu_app ?_ ?_ | refine pu_cons (by exact pu_of rfl) ?_))) ?_)) ?_ | (simp only [thenQ, blkQ, noGo]; refine endM.mk 1 [_] rfl rfl (by repeat (first | exact trivial | refine And.intro (okp (by repeat (first | exact pu_bytes _ | exact pu_nil | exact pu_vs rfl | exact pu_map (fun _ => .v _) _ | exact pu_vals _ | refine pu_app ?_ ?_ | refine pu_cons (by exact pu_of rfl) ?_))) ?_)) ?_)
  exact EndsM.r1 rfl (.tmp _ (.own _ _ _ _ _) rfl) (by first | exact .own _ _ _ _ _ (Nat.le_refl _) | exact .v _ | exact Pure'.ok (by exact pu_of rfl) _ | exact .tup _ (by repeat (first | exact ok_nil | refine ok_cons (by first | exact .own _ _ _ _ _ (Nat.le_refl _) | exact .ptr _ _ _ (Nat.le_refl _) | exact .v _ | exact Pure'.ok (by exact pu_of rfl) _) ?_))) (⟨rfl, congrArg (fun c => [c]) (tb_eq rfl (bytesD_app _ [_]).symm)⟩)
set_option maxHeartbeats 4000000 in
theorem pint_c (b : List UInt8) (v : Val) (hb : b.length ≤ 10995116277760) (hv : inI v) : FunM Try.prog 50 [ow 0 b.length 1, VD v] [tb 5 b.length (bytesD b)] (fun o H' => o = .ret (ow 0 (b.length + (encB (zigN v.i)).length) 1) ∧ H' = [tb 5 (b.length + (encB (zigN v.i)).length) (bytesD (b ++ encB (zigN v.i)))]) := by
  obtain ⟨h1, h2⟩ := hv
  have h3 := zig_le h1 h2
  have h4 := encB_len10 h3
  refine FunM.of Try.func50 rfl (Nat.le_of_ble_eq_true rfl) fun C => ?_
  refine WC.seq fun Fh1_ h1_ => ?_
  refine WC.region ?_
  refine RG.op _ _ rfl rfl (o_box (d := .agg [_, _, _]) rfl rfl) ?_
  refine RG.op _ _ rfl rfl (o_assign (.v _) rfl) ?_
  refine RG.nil (h1_ _ ?_)
  refine WC.seq fun Fh2_ h2_ => ?_
  refine WC.region ?_
  refine RG.op _ _ rfl rfl (o_move (.own _ _ _ _ _) rfl) ?_
  refine RG.op _ _ rfl rfl (o_fld_ptr rfl Try.underlying37 rfl (sz_of Ty.inf2) (by decide)) ?_
  refine RG.op _ _ rfl rfl (o_load_ptr rfl Try.underlying2 rfl rfl rfl rfl) ?_
  refine RG.op _ _ rfl rfl (o_call Ty.cal40 (vzig_c _ (by first | omega | exact ubyte _ | (simp only [LS] <;> omega)) (by first | omega | exact ubyte _ | (simp only [LS] <;> omega))) ⟨.inl rfl, trivial⟩ (by exact pua rfl)) ?_
  first | refine RG.op _ _ rfl rfl (o_call Ty.cal39 (vput_c _ _ (by first | omega | exact ubyte _ | (simp only [LS] <;> omega)) (by first | omega | exact ubyte _ | (simp only [LS] <;> omega))) ⟨.inr ⟨rfl, rfl⟩, .inl rfl, trivial⟩ (by exact pua rfl)) ?_ | refine RG.op _ _ rfl rfl (o_call Ty.cal39 (vput_c [] _ (by first | omega | exact ubyte _ | (simp only [LS] <;> omega)) (by first | omega | exact ubyte _ | (simp only [LS] <;> omega))) ⟨.inr ⟨rfl, rfl⟩, .inl rfl, trivial⟩ (by exact pua rfl)) ?_
  refine RG.op _ _ rfl rfl (o_appT (Elem.of Try.underlying22 Ty.inf5 rfl (by decide)) rfl rfl rfl (by first | omega | exact ubyte _ | (simp only [LS] <;> omega)) (by first | omega | exact ubyte _ | (simp only [LS] <;> omega)) (by repeat (first | exact bytesD_one _ | exact one_nil | exact one_map (fun _ => rfl) _ | exact one_vals _ | refine one_app ?_ ?_ | refine one_cons rfl ?_)) (by first | omega | exact ubyte _ | (simp only [LS] <;> omega)) (by first | omega | exact ubyte _ | (simp only [LS] <;> omega))) ?_
  refine RG.op _ _ rfl rfl (o_assign (.own _ _ _ _ _) rfl) ?_
  refine RG.nil (h2_ _ ?_)
  refine WC.ret ?_
  first | refine endM.mk 1 [_] rfl rfl (by repeat (first | exact trivial | refine And.intro (okp (by repeat (first | exact pu_bytes _ | exact pu_nil | exact pu_vs rfl | exact pu_map (fun _ => .v _) _ | exact pu_vals _ | refine pu_app ?_ ?_ | refine pu_cons (by exact pu_of rfl) ?_))) ?_)) ?_ | (simp only [thenQ, blkQ, noGo]; refine endM.mk 1 [_] rfl rfl (by repeat (first | exact trivial | refine And.intro (okp (by repeat (first | exact pu_bytes _ | exact pu_nil | exact pu_vs rfl | exact pu_map (fun _ => .v _) _ | exact pu_vals _ | refine pu_app ?_ ?_ | refine pu_cons (by exact pu_of rfl) ?_))) ?_)) ?_)
  exact EndsM.r1 rfl (.tmp _ (.own _ _ _ _ _) rfl) (by first | exact .own _ _ _ _ _ (Nat.le_refl _) | exact .v _ | exact Pure'.ok (by exact pu_of rfl) _ | exact .tup _ (by repeat (first | exact ok_nil | refine ok_cons (by first | exact .own _ _ _ _ _ (Nat.le_refl _) | exact .ptr _ _ _ (Nat.le_refl _) | exact .v _ | exact Pure'.ok (by exact pu_of rfl) _) ?_))) (⟨congrArg DOut.ret (ow_eq (by simp)), congrArg (fun c => [c]) (tb_eq (by simp) (by simp [bytesD_app]))⟩)
set_option maxHeartbeats 4000000 in
theorem gbool_c (b : List UInt8) (hb : b.length ≤ 10995116277760) : Fun Try.prog 49 [rdB b] (· = VR (boolR b)) := by
  refine Fun.of Try.func49 rfl (Nat.le_of_ble_eq_true rfl) fun C => ?_
  refine WC.seq fun Fh1_ h1_ => ?_
  refine WC.region ?_
  refine RG.op _ _ rfl rfl (o_alloc (z_of Ty.inf37) rfl) ?_
  refine RG.op _ _ rfl rfl (o_assign (.v _) rfl) ?_
  refine RG.op _ _ rfl rfl (o_assign (.v _) rfl) ?_
  refine RG.nil (h1_ _ ?_)
  refine WC.seq fun Fh2_ h2_ => ?_
  refine WC.seq fun Fh3_ h3_ => ?_
  refine WC.region ?_
  refine RG.op _ _ rfl rfl (o_move (.rd _ _) rfl) ?_
  refine RG.op _ _ rfl rfl (o_len_rd rfl Try.underlying22) ?_
  refine RG.op _ _ rfl rfl (o_eqI rfl rfl) ?_
  refine RG.nil (h3_ _ ?_)
  refine WC.cond _ rfl (fun c1 => ?_) (fun c1 => ?_)
  ·
    have p1 := c1
    try simp only [CN] at p1
    refine WC.seq fun Fh4_ h4_ => ?_
    refine WC.region ?_
    refine RG.op _ _ rfl rfl (o_build (cs := [B8 0, I64 0, S []]) Try.underlying37 Ty.inf37 (Ty.pl37 Try.underlying37) rfl) ?_
    refine RG.op _ _ rfl rfl (o_store (d := (.agg [_, _, _])) rfl rfl rfl rfl (sz_of Ty.inf37) (Nat.le_of_ble_eq_true rfl) rfl) ?_
    refine RG.op _ _ rfl rfl (o_assign (.v _) rfl) ?_
    refine RG.op _ _ rfl rfl (o_assign (.v _) rfl) ?_
    refine RG.nil (h4_ _ ?_)
    refine WC.ret ?_
    exact Ends.r3 rfl (.agg rfl Try.underlying37 rfl (sz_of Ty.inf37) rfl rfl rfl) (.tmp _ (.v _) rfl) (.tmp _ (.v _) rfl) (.pure' (by exact pu_of rfl)) (.v _) (.v _) ((by show _ = VR (boolR b); unfold boolR; rw [if_pos (by omega)]; rfl))
  ·
    have p1 := c1
    try simp only [CN] at p1
    refine WC.skip (h2_ _ ?_)
    refine WC.seq fun Fh5_ h5_ => ?_
    refine WC.seq fun Fh6_ h6_ => ?_
    refine WC.region ?_
    refine RG.op _ _ rfl rfl (o_move (.rd _ _) rfl) ?_
    refine RG.op _ _ rfl rfl (o_ixn_M 0 rfl rfl Try.underlying22 (sz_of Ty.inf5) (by first | omega | exact ubyte _ | (simp only [LS] <;> omega)) (by first | omega | exact ubyte _ | (simp only [LS] <;> omega))) ?_
    refine RG.op _ _ rfl rfl (o_load_adr rfl Try.underlying5 rfl rfl) ?_
    refine RG.op _ _ rfl rfl (o_gtB (b := 1) rfl rfl) ?_
    refine RG.nil (h6_ _ ?_)
    refine WC.cond _ rfl (fun c3 => ?_) (fun c3 => ?_)
    ·
      have p3 := c3
      try simp only [CN] at p3
      refine WC.seq fun Fh7_ h7_ => ?_
      refine WC.region ?_
      refine RG.op _ _ rfl rfl (o_build (cs := [B8 0, I64 0, S []]) Try.underlying37 Ty.inf37 (Ty.pl37 Try.underlying37) rfl) ?_
      refine RG.op _ _ rfl rfl (o_store (d := (.agg [_, _, _])) rfl rfl rfl rfl (sz_of Ty.inf37) (Nat.le_of_ble_eq_true rfl) rfl) ?_
      refine RG.op _ _ rfl rfl (o_assign (.v _) rfl) ?_
      refine RG.op _ _ rfl rfl (o_assign (.v _) rfl) ?_
      refine RG.nil (h7_ _ ?_)
      refine WC.ret ?_
      exact Ends.r3 rfl (.agg rfl Try.underlying37 rfl (sz_of Ty.inf37) rfl rfl rfl) (.tmp _ (.v _) rfl) (.tmp _ (.v _) rfl) (.pure' (by exact pu_of rfl)) (.v _) (.v _) ((by show _ = VR (boolR b); unfold boolR; rw [if_neg (by omega), ← gd_at (by omega), if_pos p3]; rfl))
    ·
      have p3 := c3
      try simp only [CN] at p3
      refine WC.skip (h5_ _ ?_)
      refine WC.seq fun Fh8_ h8_ => ?_
      refine WC.region ?_
      refine RG.op _ _ rfl rfl (o_move (.rd _ _) rfl) ?_
      refine RG.op _ _ rfl rfl (o_ixn_M 0 rfl rfl Try.underlying22 (sz_of Ty.inf5) (by first | omega | exact ubyte _ | (simp only [LS] <;> omega)) (by first | omega | exact ubyte _ | (simp only [LS] <;> omega))) ?_
      refine RG.op _ _ rfl rfl (o_load_adr rfl Try.underlying5 rfl rfl) ?_
      refine RG.op _ _ rfl rfl (o_BtoI rfl Try.underlying5 Try.underlying2) ?_
      refine RG.op _ _ rfl rfl (o_build (cs := [(B8 1), (.v _), S []]) Try.underlying37 Ty.inf37 (Ty.pl37 Try.underlying37) rfl) ?_
      refine RG.op _ _ rfl rfl (o_store (d := (.agg [_, _, _])) rfl rfl rfl rfl (sz_of Ty.inf37) (Nat.le_of_ble_eq_true rfl) rfl) ?_
      refine RG.op _ _ rfl rfl (o_assign (.v _) rfl) ?_
      refine RG.op _ _ rfl rfl (o_assign (.v _) rfl) ?_
      refine RG.nil (h8_ _ ?_)
      refine WC.ret ?_
      exact Ends.r3 rfl (.agg rfl Try.underlying37 rfl (sz_of Ty.inf37) rfl rfl rfl) (.tmp _ (.v _) rfl) (.tmp _ (.v _) rfl) (.pure' (by exact pu_of rfl)) (.v _) (.v _) ((by show _ = VR (boolR b); unfold boolR; rw [if_neg (by omega), ← gd_at (by omega), if_neg p3]; rfl))
set_option maxHeartbeats 4000000 in
theorem gint_c (b : List UInt8) (hb : b.length ≤ 10995116277760) : Fun Try.prog 51 [rdB b] (· = VR (intR b)) := by
  have hlt := vget_lt b
  refine Fun.of Try.func51 rfl (Nat.le_of_ble_eq_true rfl) fun C => ?_
  refine WC.seq fun Fh1_ h1_ => ?_
  refine WC.region ?_
  refine RG.op _ _ rfl rfl (o_alloc (z_of Ty.inf37) rfl) ?_
  refine RG.op _ _ rfl rfl (o_assign (.v _) rfl) ?_
  refine RG.op _ _ rfl rfl (o_assign (.v _) rfl) ?_
  refine RG.nil (h1_ _ ?_)
  refine WC.seq fun Fh2_ h2_ => ?_
  refine WC.region ?_
  refine RG.op _ _ rfl rfl (o_move (.rd _ _) rfl) ?_
  refine RG.op _ _ rfl rfl (o_call Ty.cal44 (vget_c _ (by first | omega | exact ubyte _ | (simp only [LS] <;> omega))) ⟨.inl rfl, trivial⟩ (by exact pua rfl)) ?_
  refine RG.op _ _ rfl rfl (o_move (.tup _) rfl) ?_
  refine RG.op _ _ rfl rfl (o_extract rfl rfl) ?_
  refine RG.op _ _ rfl rfl (o_extract rfl rfl) ?_
  refine RG.op _ _ rfl rfl (o_extract rfl rfl) ?_
  refine RG.op _ _ rfl rfl (o_assign (.v _) rfl) ?_
  refine RG.op _ _ rfl rfl (o_assign (.v _) rfl) ?_
  refine RG.op _ _ rfl rfl (o_assign (.v _) rfl) ?_
  refine RG.nil (h2_ _ ?_)
  refine WC.seq fun Fh3_ h3_ => ?_
  refine WC.seq fun Fh4_ h4_ => ?_
  refine WC.region ?_
  refine RG.op _ _ rfl rfl (o_move (.v _) rfl) ?_
  refine RG.op _ _ rfl rfl (o_neI rfl rfl) ?_
  refine RG.nil (h4_ _ ?_)
  refine WC.cond _ rfl (fun c2 => ?_) (fun c2 => ?_)
  ·
    have p2 := c2
    try simp only [CN] at p2
    refine WC.seq fun Fh5_ h5_ => ?_
    refine WC.region ?_
    refine RG.op _ _ rfl rfl (o_build (cs := [B8 0, I64 0, S []]) Try.underlying37 Ty.inf37 (Ty.pl37 Try.underlying37) rfl) ?_
    refine RG.op _ _ rfl rfl (o_move (.v _) rfl) ?_
    refine RG.op _ _ rfl rfl (o_store (d := (.agg [_, _, _])) rfl rfl rfl rfl (sz_of Ty.inf37) (Nat.le_of_ble_eq_true rfl) rfl) ?_
    refine RG.op _ _ rfl rfl (o_assign (.v _) rfl) ?_
    refine RG.op _ _ rfl rfl (o_assign (.v _) rfl) ?_
    refine RG.nil (h5_ _ ?_)
    refine WC.ret ?_
    exact Ends.r3 rfl (.agg rfl Try.underlying37 rfl (sz_of Ty.inf37) rfl rfl rfl) (.tmp _ (.v _) rfl) (.tmp _ (.v _) rfl) (.pure' (by exact pu_of rfl)) (.v _) (.v _) ((by show _ = VR (intR b); unfold intR; rw [if_neg (by omega)]; rfl))
  ·
    have p2 := c2
    try simp only [CN] at p2
    refine WC.skip (h3_ _ ?_)
    refine WC.seq fun Fh6_ h6_ => ?_
    refine WC.region ?_
    refine RG.op _ _ rfl rfl (o_move (.v _) rfl) ?_
    refine RG.op _ _ rfl rfl (o_call Ty.cal45 (vzag_c _ (by first | omega | exact ubyte _ | (simp only [LS] <;> omega))) ⟨.inl rfl, trivial⟩ (by exact pua rfl)) ?_
    refine RG.op _ _ rfl rfl (o_build (cs := [(B8 2), (.v _), S []]) Try.underlying37 Ty.inf37 (Ty.pl37 Try.underlying37) rfl) ?_
    refine RG.op _ _ rfl rfl (o_move (.v _) rfl) ?_
    refine RG.op _ _ rfl rfl (o_store (d := (.agg [_, _, _])) rfl rfl rfl rfl (sz_of Ty.inf37) (Nat.le_of_ble_eq_true rfl) rfl) ?_
    refine RG.op _ _ rfl rfl (o_assign (.v _) rfl) ?_
    refine RG.op _ _ rfl rfl (o_assign (.v _) rfl) ?_
    refine RG.nil (h6_ _ ?_)
    refine WC.ret ?_
    exact Ends.r3 rfl (.agg rfl Try.underlying37 rfl (sz_of Ty.inf37) rfl rfl rfl) (.tmp _ (.v _) rfl) (.tmp _ (.v _) rfl) (.pure' (by exact pu_of rfl)) (.v _) (.v _) ((by show _ = VR (intR b); unfold intR; rw [if_pos (by omega)]; rfl))
set_option maxHeartbeats 4000000 in
theorem gtext_c (b : List UInt8) (hb : b.length ≤ 10995116277760) : Fun Try.prog 53 [rdB b] (· = VR (textRR b)) := by
  have hlt := vget_lt b
  have hvl := vget_len (b := b)
  refine Fun.of Try.func53 rfl (Nat.le_of_ble_eq_true rfl) fun C => ?_
  refine WC.seq fun Fh1_ h1_ => ?_
  refine WC.region ?_
  refine RG.op _ _ rfl rfl (o_alloc (z_of Ty.inf37) rfl) ?_
  refine RG.op _ _ rfl rfl (o_assign (.v _) rfl) ?_
  refine RG.op _ _ rfl rfl (o_assign (.v _) rfl) ?_
  refine RG.nil (h1_ _ ?_)
  refine WC.seq fun Fh2_ h2_ => ?_
  refine WC.region ?_
  refine RG.op _ _ rfl rfl (o_move (.rd _ _) rfl) ?_
  refine RG.op _ _ rfl rfl (o_call Ty.cal44 (vget_c _ (by first | omega | exact ubyte _ | (simp only [LS] <;> omega))) ⟨.inl rfl, trivial⟩ (by exact pua rfl)) ?_
  refine RG.op _ _ rfl rfl (o_move (.tup _) rfl) ?_
  refine RG.op _ _ rfl rfl (o_extract rfl rfl) ?_
  refine RG.op _ _ rfl rfl (o_extract rfl rfl) ?_
  refine RG.op _ _ rfl rfl (o_extract rfl rfl) ?_
  refine RG.op _ _ rfl rfl (o_assign (.v _) rfl) ?_
  refine RG.op _ _ rfl rfl (o_assign (.v _) rfl) ?_
  refine RG.op _ _ rfl rfl (o_assign (.v _) rfl) ?_
  refine RG.nil (h2_ _ ?_)
  refine WC.seq fun Fh3_ h3_ => ?_
  refine WC.seq fun Fh4_ h4_ => ?_
  refine WC.region ?_
  refine RG.op _ _ rfl rfl (o_move (.v _) rfl) ?_
  refine RG.op _ _ rfl rfl (o_neI rfl rfl) ?_
  refine RG.nil (h4_ _ ?_)
  refine WC.cond _ rfl (fun c2 => ?_) (fun c2 => ?_)
  ·
    have p2 := c2
    try simp only [CN] at p2
    refine WC.seq fun Fh5_ h5_ => ?_
    refine WC.region ?_
    refine RG.op _ _ rfl rfl (o_build (cs := [B8 0, I64 0, S []]) Try.underlying37 Ty.inf37 (Ty.pl37 Try.underlying37) rfl) ?_
    refine RG.op _ _ rfl rfl (o_move (.v _) rfl) ?_
    refine RG.op _ _ rfl rfl (o_store (d := (.agg [_, _, _])) rfl rfl rfl rfl (sz_of Ty.inf37) (Nat.le_of_ble_eq_true rfl) rfl) ?_
    refine RG.op _ _ rfl rfl (o_assign (.v _) rfl) ?_
    refine RG.op _ _ rfl rfl (o_assign (.v _) rfl) ?_
    refine RG.nil (h5_ _ ?_)
    refine WC.ret ?_
    exact Ends.r3 rfl (.agg rfl Try.underlying37 rfl (sz_of Ty.inf37) rfl rfl rfl) (.tmp _ (.v _) rfl) (.tmp _ (.v _) rfl) (.pure' (by exact pu_of rfl)) (.v _) (.v _) ((by show _ = VR (textRR b); unfold textRR; rw [if_neg (by omega)]; rfl))
  ·
    have p2 := c2
    try simp only [CN] at p2
    refine WC.skip (h3_ _ ?_)
    refine WC.seq fun Fh6_ h6_ => ?_
    refine WC.seq fun Fh7_ h7_ => ?_
    refine WC.region ?_
    refine RG.op _ _ rfl rfl (o_move (.v _) rfl) ?_
    refine RG.op _ _ rfl rfl (o_move (.rd _ _) rfl) ?_
    refine RG.op _ _ rfl rfl (o_len_rd rfl Try.underlying22) ?_
    refine RG.op _ _ rfl rfl (o_move (.v _) rfl) ?_
    refine RG.op _ _ rfl rfl (o_sub rfl rfl (by first | omega | exact ubyte _ | (simp only [LS] <;> omega)) (by first | omega | exact ubyte _ | (simp only [LS] <;> omega))) ?_
    refine RG.op _ _ rfl rfl (o_i64toU rfl Try.underlying3 Try.underlying72) ?_
    refine RG.op _ _ rfl rfl (o_gtI rfl rfl) ?_
    refine RG.nil (h7_ _ ?_)
    refine WC.cond _ rfl (fun c4 => ?_) (fun c4 => ?_)
    ·
      have p4 := c4
      try simp only [CN] at p4
      refine WC.seq fun Fh8_ h8_ => ?_
      refine WC.region ?_
      refine RG.op _ _ rfl rfl (o_build (cs := [B8 0, I64 0, S []]) Try.underlying37 Ty.inf37 (Ty.pl37 Try.underlying37) rfl) ?_
      refine RG.op _ _ rfl rfl (o_store (d := (.agg [_, _, _])) rfl rfl rfl rfl (sz_of Ty.inf37) (Nat.le_of_ble_eq_true rfl) rfl) ?_
      refine RG.op _ _ rfl rfl (o_assign (.v _) rfl) ?_
      refine RG.op _ _ rfl rfl (o_assign (.v _) rfl) ?_
      refine RG.nil (h8_ _ ?_)
      refine WC.ret ?_
      exact Ends.r3 rfl (.agg rfl Try.underlying37 rfl (sz_of Ty.inf37) rfl rfl rfl) (.tmp _ (.v _) rfl) (.tmp _ (.v _) rfl) (.pure' (by exact pu_of rfl)) (.v _) (.v _) ((by show _ = VR (textRR b); unfold textRR; rw [if_pos (by omega), if_pos (by omega)]; rfl))
    ·
      have p4 := c4
      try simp only [CN] at p4
      have hu : (vget b).1 ≤ b.length - (vget b).2.1 := by omega
      have hs : sgn (vget b).1 = ((vget b).1 : Int) := by unfold sgn; rw [if_pos (by omega)]
      refine WC.skip (h6_ _ ?_)
      refine WC.seq fun Fh9_ h9_ => ?_
      refine WC.region ?_
      refine RG.op _ _ rfl rfl (o_move (.v _) rfl) ?_
      refine RG.op _ _ rfl rfl (o_move (.v _) rfl) ?_
      refine RG.op _ _ rfl rfl (o_UtoI64 rfl (by first | omega | exact ubyte _ | (simp only [LS] <;> omega)) Try.underlying72 Try.underlying3) ?_
      refine RG.op _ _ rfl rfl ((o_add rfl rfl (by omega) (by omega)).cast (congrArg I64 (show ((vget b).2.1 : Int) + sgn (vget b).1 = (((vget b).2.1 + (vget b).1 : Nat) : Int) by omega))) ?_
      refine RG.op _ _ rfl rfl (o_assign (.v _) rfl) ?_
      refine RG.nil (h9_ _ ?_)
      refine WC.seq fun Fh10_ h10_ => ?_
      refine WC.region ?_
      refine RG.op _ _ rfl rfl (o_move (.rd _ _) rfl) ?_
      refine RG.op _ _ rfl rfl (o_move (.v _) rfl) ?_
      refine RG.op _ _ rfl rfl (o_move (.v _) rfl) ?_
      refine RG.op _ _ rfl rfl (o_partM (l := b) (g := fun b => U8 b.toBitVec) (vget b).2.1 ((vget b).2.1 + (vget b).1) rfl rfl rfl Try.underlying22 (sz_of Ty.inf5) (by omega) (by omega) (by omega) (by omega)) ?_
      refine RG.op _ _ rfl rfl (o_str_rd rfl Try.underlying22 Try.underlying5 Try.underlying9) ?_
      refine RG.op _ _ rfl rfl (o_build (cs := [(B8 3), I64 0, (.v _)]) Try.underlying37 Ty.inf37 (Ty.pl37 Try.underlying37) rfl) ?_
      refine RG.op _ _ rfl rfl (o_move (.v _) rfl) ?_
      refine RG.op _ _ rfl rfl (o_store (d := (.agg [_, _, _])) rfl rfl rfl rfl (sz_of Ty.inf37) (Nat.le_of_ble_eq_true rfl) rfl) ?_
      refine RG.op _ _ rfl rfl (o_assign (.v _) rfl) ?_
      refine RG.op _ _ rfl rfl (o_assign (.v _) rfl) ?_
      refine RG.nil (h10_ _ ?_)
      refine WC.ret ?_
      exact Ends.r3 rfl (.agg rfl Try.underlying37 rfl (sz_of Ty.inf37) rfl rfl rfl) (.tmp _ (.v _) rfl) (.tmp _ (.v _) rfl) (.pure' (by exact pu_of rfl)) (.v _) (.v _) ((by show _ = VR (textRR b); unfold textRR; rw [if_pos (by omega), if_neg (by omega), Nat.add_sub_cancel_left]; rfl))
end Go.Proofs.Ytbdibcpenihpdaa
