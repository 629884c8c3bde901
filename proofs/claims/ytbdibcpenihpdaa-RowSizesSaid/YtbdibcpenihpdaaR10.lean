/-
  Layer row: laws RowApart and RowSizes. No condition.
-/
import Derived.Test.YtbdibcpenihpdaaR9
import Derived.Test.YtbdibcpenihpdaaDlU
set_option linter.unusedSimpArgs false
set_option linter.unusedVariables false
namespace Go.Proofs.Ytbdibcpenihpdaa
open Go.RowKit Go.DL

theorem intR' : Rds Try.prog 3 (fun n : Int => -9223372036854775808 ≤ n ∧ n ≤ 9223372036854775807) (fun n => [I64 n]) := by exact Rds.i64 Try.underlying3
section
variable {P : Program} {C : Ctx} {env : Nat → D} {H : Heap} {dst : Option Nat} {ty t t' : TypeId} {pos : String} {after : Array Edge} {gu : Option (Nat × Bool)} {X Y : Operand}
theorem o_remT {a b : Int} (hx : ev env X = I64 a) (hy : ev env Y = I64 b) (h1 : b ≠ 0) : OpD P C ⟨dst, .binOp .rem t X Y t', ty, pos, after, gu⟩ env H (I64 (a.tmod b)) H :=
  o_bin (.int .i64 (a.tmod b)) hx hy (by show Op.intDiv .rem .i64 a b = _; unfold Op.intDiv; rw [if_neg h1]; rfl)
end
theorem tmod_lt {a : Int} {n : Nat} (h : 0 < n) : -(n : Int) < a.tmod n ∧ a.tmod n < n := by
  have h1 := Int.tmod_lt_of_pos a (show (0 : Int) < n by omega)
  have h2 := Int.lt_tmod_of_pos a (show (0 : Int) < n by omega)
  exact ⟨h2, h1⟩
theorem get_cut0 {ts : List UInt8} {l : List Val} (h1 : ts.all tyB = true) (h2 : rowM ts l = true) (hv : ∀ v ∈ l, inI v) (ht : ∀ v ∈ l, v.t.length ≤ 1099511627776) {c : Nat} (hc : c < ((putM ts l).getD []).length) : (getM ts (((putM ts l).getD []).take c)).2 = 20 := by
  rw [put_ok h1 h2] at hc ⊢
  exact get_cut h1 h2 hv ht hc
theorem get_ext {ts : List UInt8} {l : List Val} (h1 : ts.all tyB = true) (h2 : rowM ts l = true) (hv : ∀ v ∈ l, inI v) (ht : ∀ v ∈ l, v.t.length ≤ 1099511627776) {r : List UInt8} (hr : 0 < r.length) : (getM ts ((putM ts l).getD [] ++ r)).2 = 21 := by
  rw [put_ok h1 h2]
  have := get_put h1 h2 hv ht r
  rw [if_neg (List.length_pos_iff.1 hr)] at this
  exact congrArg Prod.snd this
theorem put_inj {ts : List UInt8} {l m : List Val} (h1 : ts.all tyB = true) (h2 : rowM ts l = true) (hv : ∀ v ∈ l, inI v) (ht : ∀ v ∈ l, v.t.length ≤ 1099511627776) (h2' : rowM ts m = true) (hv' : ∀ v ∈ m, inI v) (ht' : ∀ v ∈ m, v.t.length ≤ 1099511627776) : ((putM ts l).getD [] = (putM ts m).getD []) ↔ l = m := by
  constructor
  · intro h
    have e1 := get_put0 h1 h2 hv ht
    have e2 := get_put0 h1 h2' hv' ht'
    rw [h, e2] at e1
    exact (congrArg Prod.fst e1).symm
  · rintro rfl; rfl
theorem apart_no {ts : List UInt8} {l m : List Val} (h1 : ts.all tyB = true) (h2 : rowM ts l = true) (hv : ∀ v ∈ l, inI v) (ht : ∀ v ∈ l, v.t.length ≤ 1099511627776) (hv' : ∀ v ∈ m, inI v) (ht' : ∀ v ∈ m, v.t.length ≤ 1099511627776) :
    ¬ (decide ((bif (putM ts m).isSome then (0 : Int) else 1) = 0) && (((putM ts l).getD [] == (putM ts m).getD []) != decide (l = m))) = true := by
  intro h
  rw [Bool.and_eq_true, decide_eq_true_eq] at h
  have h3 := put_e h.1
  have h4 := put_inj h1 h2 hv ht h3.2 hv' ht'
  have h5 := h.2
  by_cases e : l = m
  · rw [decide_eq_true e, beq_iff_eq.2 (h4.2 e)] at h5; cases h5
  · rw [decide_eq_false e, beq_eq_false_iff_ne.2 (fun hh => e (h4.1 hh))] at h5; cases h5
attribute [local irreducible] getM putM rowM nm szM szR
set_option maxRecDepth 20000 in
set_option maxHeartbeats 4000000 in
theorem rowapart_c (ts : List UInt8) (hts : ts.length ≤ 9223372036854775807) (l : List Val) (hl : okL l) (m : List Val) (hm : okL m) (r : List UInt8) (hr : r.length ≤ 9223372036854775807) (x : Int) (hx : -9223372036854775808 ≤ x ∧ x ≤ 9223372036854775807) : Fun Try.prog 6 [rdB ts, rdV l, rdV m, rdB r, I64 x] (· = Bo true) := by
  have hll := hl.2
  have hmm := hm.2
  refine Fun.of Try.func6 rfl (Nat.le_of_ble_eq_true rfl) fun C => ?_
  refine WC.seq fun Fh1_ h1_ => ?_
  refine WC.region ?_
  refine RG.op _ _ rfl rfl (o_assign (.v _) rfl) ?_
  refine RG.nil (h1_ _ ?_)
  refine WC.seq fun Fh2_ h2_ => ?_
  refine WC.seq fun Fh3_ h3_ => ?_
  refine WC.region ?_
  refine RG.op _ _ rfl rfl (o_move (.rd _ _) rfl) ?_
  refine RG.op _ _ rfl rfl (o_move (.rd _ _) rfl) ?_
  refine RG.op _ _ rfl rfl (o_call Ty.cal15 (long4_c _ _ (by first | omega | exact ubyte _ | (simp only [LS] <;> omega)) (by first | omega | exact ubyte _ | (simp only [LS] <;> omega))) ⟨.inl rfl, .inl rfl, trivial⟩ (by exact pua rfl)) ?_
  refine RG.op _ _ rfl rfl (o_move (.v _) rfl) ?_
  refine RG.opg1 _ _ _ _ _ rfl rfl rfl rfl rfl (fun hb => o_move (.rd _ _) rfl) ?_
  refine RG.opg1 _ _ _ _ _ rfl rfl rfl rfl rfl (fun hb => o_move (.rd _ _) rfl) ?_
  refine RG.opg1 _ _ _ _ _ rfl rfl rfl rfl rfl (fun hb => o_call Ty.cal15 (long4_c _ _ (by first | omega | exact ubyte _ | (have hb' := hb; simp only [CN] at hb'; omega) | (simp only [LS] <;> omega) | (have hb' := hb; simp only [CN] at hb'; simp only [LS]; omega)) (by first | omega | exact ubyte _ | (have hb' := hb; simp only [CN] at hb'; omega) | (simp only [LS] <;> omega) | (have hb' := hb; simp only [CN] at hb'; simp only [LS]; omega))) ⟨.inl (gdT hb), .inl (gdT hb), trivial⟩ (by exact pua rfl)) ?_
  refine RG.op _ _ rfl rfl (o_or _ _ rfl rfl rfl) ?_
  refine RG.op _ _ rfl rfl (o_move (.v _) rfl) ?_
  refine RG.opg1 _ _ _ _ _ rfl rfl rfl rfl rfl (fun hb => o_move (.rd _ _) rfl) ?_
  refine RG.opg1 _ _ _ _ _ rfl rfl rfl rfl rfl (fun hb => o_len_rd (gdT hb) Try.underlying22) ?_
  refine RG.opg1 _ _ _ _ _ rfl rfl rfl rfl rfl (fun hb => o_gtI (gdT hb) rfl) ?_
  refine RG.op _ _ rfl rfl (o_or _ _ rfl rfl rfl) ?_
  refine RG.nil (h3_ _ ?_)
  refine WC.cond _ rfl (fun c1 => ?_) (fun c1 => ?_)
  ·
    have p1 := c1
    try simp only [CN] at p1
    refine WC.seq fun Fh4_ h4_ => ?_
    refine WC.region ?_
    refine RG.op _ _ rfl rfl (o_assign (.v _) rfl) ?_
    refine RG.nil (h4_ _ ?_)
    refine WC.ret ?_
    exact Ends.r1 rfl (.tmp _ (.v _) rfl) (.v _) (rfl)
  ·
    have p1 := c1
    try simp only [CN] at p1
    have hs := long4_sz p1.1.1
    have hs' := long4_sz p1.1.2
    have p1b : r.length ≤ 200 := by omega
    have hs1 := hs.1
    have hs2 := hs.2.1
    have hs3 := hs.2.2.1
    have hs2' := hs'.2.1
    have hs3' := hs'.2.2.1
    have ht : ∀ v ∈ l, v.t.length ≤ 1099511627776 := fun v hv => Nat.le_trans (hs.2.2.2 v hv) (by decide)
    have ht2 : ∀ v ∈ m, v.t.length ≤ 1099511627776 := fun v hv => Nat.le_trans (hs'.2.2.2 v hv) (by decide)
    have hpl := put_len (ts := ts) hl.inI ht
    have hpm := put_len (ts := ts) hm.inI ht2
    have hsr := szR_60 hs3
    have hsr2 := szR_60 hs3'
    have hnm := nm_eq l
    have hnm2 := nm_eq m
    refine WC.skip (h2_ _ ?_)
    refine WC.seq fun Fh5_ h5_ => ?_
    refine WC.region ?_
    refine RG.op _ _ rfl rfl (o_move (.rd _ _) rfl) ?_
    refine RG.op _ _ rfl rfl (o_move (.rd _ _) rfl) ?_
    first | refine RG.op _ _ rfl rfl (o_call Ty.cal16 (rput4_c _ _ (by first | omega | exact ubyte _ | (simp only [LS] <;> omega)) (by first | omega | exact ubyte _ | (simp only [LS] <;> omega)) hl.inI ht) ⟨.inl rfl, .inl rfl, trivial⟩ (by exact pua rfl)) ?_ | refine RG.op _ _ rfl rfl (o_call Ty.cal16 (rput4_c _ _ (by first | omega | exact ubyte _ | (simp only [LS] <;> omega)) (by first | omega | exact ubyte _ | (simp only [LS] <;> omega)) hm.inI ht2) ⟨.inl rfl, .inl rfl, trivial⟩ (by exact pua rfl)) ?_
    refine RG.op _ _ rfl rfl (o_move (.tup _) rfl) ?_
    refine RG.op _ _ rfl rfl (o_extract rfl rfl) ?_
    refine RG.op _ _ rfl rfl (o_extract rfl rfl) ?_
    refine RG.op _ _ rfl rfl (o_assign (.rd _ _) rfl) ?_
    refine RG.op _ _ rfl rfl (o_assign (.v _) rfl) ?_
    refine RG.nil (h5_ _ ?_)
    refine WC.seq fun Fh6_ h6_ => ?_
    refine WC.region ?_
    refine RG.op _ _ rfl rfl (o_move (.rd _ _) rfl) ?_
    refine RG.op _ _ rfl rfl (o_move (.rd _ _) rfl) ?_
    first | refine RG.op _ _ rfl rfl (o_call Ty.cal16 (rput4_c _ _ (by first | omega | exact ubyte _ | (simp only [LS] <;> omega)) (by first | omega | exact ubyte _ | (simp only [LS] <;> omega)) hl.inI ht) ⟨.inl rfl, .inl rfl, trivial⟩ (by exact pua rfl)) ?_ | refine RG.op _ _ rfl rfl (o_call Ty.cal16 (rput4_c _ _ (by first | omega | exact ubyte _ | (simp only [LS] <;> omega)) (by first | omega | exact ubyte _ | (simp only [LS] <;> omega)) hm.inI ht2) ⟨.inl rfl, .inl rfl, trivial⟩ (by exact pua rfl)) ?_
    refine RG.op _ _ rfl rfl (o_move (.tup _) rfl) ?_
    refine RG.op _ _ rfl rfl (o_extract rfl rfl) ?_
    refine RG.op _ _ rfl rfl (o_extract rfl rfl) ?_
    refine RG.op _ _ rfl rfl (o_assign (.rd _ _) rfl) ?_
    refine RG.op _ _ rfl rfl (o_assign (.v _) rfl) ?_
    refine RG.nil (h6_ _ ?_)
    refine WC.seq fun Fh7_ h7_ => ?_
    refine WC.seq fun Fh8_ h8_ => ?_
    refine WC.region ?_
    refine RG.op _ _ rfl rfl (o_move (.v _) rfl) ?_
    refine RG.op _ _ rfl rfl (o_neI rfl rfl) ?_
    refine RG.nil (h8_ _ ?_)
    refine WC.cond _ rfl (fun c5 => ?_) (fun c5 => ?_)
    ·
      have p5 := c5
      try simp only [CN] at p5
      refine WC.seq fun Fh9_ h9_ => ?_
      refine WC.region ?_
      refine RG.op _ _ rfl rfl (o_call Ty.cal19 (rowPuts) trivial (by exact pua rfl)) ?_
      refine RG.op _ _ rfl rfl (o_assign (.v _) rfl) ?_
      refine RG.nil (h9_ _ ?_)
      refine WC.ret ?_
      exact Ends.r1 rfl (.tmp _ (.v _) rfl) (.v _) (rfl)
    ·
      have p5 := c5
      try simp only [CN] at p5
      have hok := put_e p5
      refine WC.skip (h7_ _ ?_)
      refine WC.seq fun Fh10_ h10_ => ?_
      refine WC.seq fun Fh11_ h11_ => ?_
      refine WC.drawn1 (by kernel_rfl) ?_
      refine PG.op _ rfl rfl rfl (by rintro _ rfl; exact o_move (.v _) rfl) ?_
      refine PG.op _ rfl rfl rfl (by rintro _ rfl; exact o_eqI rfl rfl) ?_
      refine PG.op _ rfl rfl rfl (by rintro _ rfl; exact o_move (.v _) rfl) ?_
      refine PG.opg1 _ _ _ _ _ rfl rfl rfl rfl rfl rfl (fun hb => (by rintro _ rfl; exact o_move (.rd _ _) rfl)) ?_
      refine PG.opg1 _ _ _ _ _ rfl rfl rfl rfl rfl rfl (fun hb => (by rintro _ rfl; exact o_str_rd (gdT hb) Try.underlying22 Try.underlying5 Try.underlying9)) ?_
      refine PG.opg1 _ _ _ _ _ rfl rfl rfl rfl rfl rfl (fun hb => (by rintro _ rfl; exact o_move (.rd _ _) rfl)) ?_
      refine PG.opg1 _ _ _ _ _ rfl rfl rfl rfl rfl rfl (fun hb => (by rintro _ rfl; exact o_str_rd (gdT hb) Try.underlying22 Try.underlying5 Try.underlying9)) ?_
      refine PG.opg1 _ _ _ _ _ rfl rfl rfl rfl rfl rfl (fun hb => (by rintro _ rfl; exact o_eqS' (gdT hb) (gdT hb))) ?_
      refine PG.opg1 _ _ _ _ _ rfl rfl rfl rfl rfl rfl (fun hb => (by rintro _ rfl; exact o_move (.rd _ _) rfl)) ?_
      refine PG.opg1 _ _ _ _ _ rfl rfl rfl rfl rfl rfl (fun hb => (by rintro _ rfl; exact o_move (.rd _ _) rfl)) ?_
      refine PG.opg1 _ _ _ _ _ rfl rfl rfl rfl rfl rfl (fun hb => (by rintro _ rfl; exact o_call Ty.cal18 (same_c _ _ (by first | omega | exact ubyte _ | (have hb' := hb; simp only [CN] at hb'; omega) | (simp only [LS] <;> omega) | (have hb' := hb; simp only [CN] at hb'; simp only [LS]; omega)) (by first | omega | exact ubyte _ | (have hb' := hb; simp only [CN] at hb'; omega) | (simp only [LS] <;> omega) | (have hb' := hb; simp only [CN] at hb'; simp only [LS]; omega))) ⟨.inl (gdT hb), .inl (gdT hb), trivial⟩ (by exact pua rfl))) ?_
      refine PG.opg1 _ _ _ _ _ rfl rfl rfl rfl rfl rfl (fun hb => (by rintro _ rfl; exact o_neb (gdT hb) (gdT hb) Try.underlying4)) ?_
      refine PG.op _ rfl rfl rfl (by rintro _ rfl; exact o_and _ _ rfl rfl rfl) ?_
      refine PG.nil ⟨by kernel_rfl, rfl, (h11_ _ ?_)⟩
      refine WC.cond _ rfl (fun c7 => ?_) (fun c7 => ?_)
      ·
        have p7 := c7
        try simp only [CN] at p7
        exact absurd c7 (apart_no hok.1 hok.2 hl.inI ht hm.inI ht2)
      ·
        have p7 := c7
        try simp only [CN] at p7
        refine WC.skip (h10_ _ ?_)
        refine WC.seq fun Fh12_ h12_ => ?_
        refine WC.seq fun Fh13_ h13_ => ?_
        refine WC.region ?_
        refine RG.op _ _ rfl rfl (o_move (.rd _ _) rfl) ?_
        refine RG.op _ _ rfl rfl (o_len_rd rfl Try.underlying22) ?_
        refine RG.op _ _ rfl rfl (o_gtI rfl rfl) ?_
        refine RG.nil (h13_ _ ?_)
        refine WC.cond _ rfl (fun c9 => ?_) (fun c9 => ?_)
        ·
          have p9 := c9
          try simp only [CN] at p9
          have hG := get_ext hok.1 hok.2 hl.inI ht (r := r) (by omega)
          refine WC.seq fun Fh14_ h14_ => ?_
          refine WC.region ?_
          refine RG.op _ _ rfl rfl (o_move (.rd _ _) rfl) ?_
          refine RG.op _ _ rfl rfl (o_litV (cs := []) 0 Try.underlying22 Ty.inf5 rfl rfl rfl rfl rfl rfl) ?_
          refine RG.op _ _ rfl rfl (o_move (.rd _ _) rfl) ?_
          refine RG.op _ _ rfl rfl (o_appT (Elem.of Try.underlying22 Ty.inf5 rfl (by decide)) rfl rfl rfl (by first | omega | exact ubyte _ | (simp only [LS] <;> omega)) (by first | omega | exact ubyte _ | (simp only [LS] <;> omega)) (by repeat (first | exact bytesD_one _ | exact one_nil | exact one_map (fun _ => rfl) _ | exact one_vals _ | refine one_app ?_ ?_ | refine one_cons rfl ?_)) (by first | omega | exact ubyte _ | (simp only [LS] <;> omega)) (by first | omega | exact ubyte _ | (simp only [LS] <;> omega))) ?_
          refine RG.op _ _ rfl rfl (o_move (.rd _ _) rfl) ?_
          refine RG.op _ _ rfl rfl (o_appT (Elem.of Try.underlying22 Ty.inf5 rfl (by decide)) rfl rfl rfl (by first | omega | exact ubyte _ | (simp only [LS] <;> omega)) (by first | omega | exact ubyte _ | (simp only [LS] <;> omega)) (by repeat (first | exact bytesD_one _ | exact one_nil | exact one_map (fun _ => rfl) _ | exact one_vals _ | refine one_app ?_ ?_ | refine one_cons rfl ?_)) (by first | omega | exact ubyte _ | (simp only [LS] <;> omega)) (by first | omega | exact ubyte _ | (simp only [LS] <;> omega))) ?_
          refine RG.op _ _ rfl rfl (OpD.frzL 0 _ [(70, rdB ((putM ts l).getD [] ++ r))] rfl (by repeat (first | exact pu_bytes _ | exact pu_nil | exact pu_vs rfl | exact pu_map (fun _ => .v _) _ | exact pu_vals _ | refine pu_app ?_ ?_ | refine pu_cons (by exact pu_of rfl) ?_)) ⟨.rowE rfl (by simp) (by simp [bytesD_app]), trivial⟩ (o_call Ty.cal20 (get4_c ts ((putM ts l).getD [] ++ r) (by first | omega | exact ubyte _ | (simp only [LS] <;> omega)) (by first | omega | exact ubyte _ | (simp only [LS] <;> omega))) ⟨.inl rfl, .inl rfl, trivial⟩ (by exact pua rfl))) ?_
          refine RG.op _ _ rfl rfl (o_move (.tup _) rfl) ?_
          refine RG.op _ _ rfl rfl (o_extract rfl rfl) ?_
          refine RG.op _ _ rfl rfl (o_extract rfl rfl) ?_
          refine RG.op _ _ rfl rfl (o_assign (.rd _ _) rfl) ?_
          refine RG.op _ _ rfl rfl (o_assign (.v _) rfl) ?_
          refine RG.nil (h14_ _ ?_)
          refine WC.seq fun Fh15_ h15_ => ?_
          refine WC.region ?_
          refine RG.op _ _ rfl rfl (o_move (.v _) rfl) ?_
          refine RG.op _ _ rfl rfl (o_neI rfl rfl) ?_
          refine RG.nil (h15_ _ ?_)
          refine WC.cond _ rfl (fun c11 => ?_) (fun c11 => ?_)
          ·
            have p11 := c11
            try simp only [CN] at p11
            exact absurd hG (by omega)
          ·
            have p11 := c11
            try simp only [CN] at p11
            refine WC.skip (h12_ _ ?_)
            refine WC.seq fun Fh16_ h16_ => ?_
            refine WC.seq fun Fh17_ h17_ => ?_
            refine WC.region ?_
            refine RG.op _ _ rfl rfl (o_move (.rd _ _) rfl) ?_
            refine RG.op _ _ rfl rfl (o_len_rd rfl Try.underlying22) ?_
            refine RG.op _ _ rfl rfl (o_eqI rfl rfl) ?_
            refine RG.nil (h17_ _ ?_)
            refine WC.cond _ rfl (fun c13 => ?_) (fun c13 => ?_)
            ·
              have p13 := c13
              try simp only [CN] at p13
              refine WC.seq fun Fh18_ h18_ => ?_
              refine WC.region ?_
              refine RG.op _ _ rfl rfl (o_call Ty.cal19 (rowPuts) trivial (by exact pua rfl)) ?_
              refine RG.op _ _ rfl rfl (o_assign (.v _) rfl) ?_
              refine RG.nil (h18_ _ ?_)
              refine WC.ret ?_
              exact Ends.r1 rfl (.tmp _ (.v _) rfl) (.v _) (rfl)
            ·
              have p13 := c13
              try simp only [CN] at p13
              have hpos : 0 < ((putM ts l).getD []).length := by omega
              have htm := tmod_lt (a := x) hpos
              refine WC.skip (h16_ _ ?_)
              refine WC.seq fun Fh19_ h19_ => ?_
              refine WC.region ?_
              refine RG.op _ _ rfl rfl (o_move (.v _) rfl) ?_
              refine RG.op _ _ rfl rfl (o_move (.rd _ _) rfl) ?_
              refine RG.op _ _ rfl rfl (o_len_rd rfl Try.underlying22) ?_
              refine RG.op _ _ rfl rfl (o_remT rfl rfl (by omega)) ?_
              refine RG.op _ _ rfl rfl (o_assign (.v _) rfl) ?_
              refine RG.nil (h19_ _ ?_)
              refine WC.joinU [17, 84, 85, 86, 87, 88, 89] (fun (c : Nat) => [(17, I64 ((c : Nat) : Int))]) (fun (c : Nat) => []) (fun (c : Nat) => c < ((putM ts l).getD []).length) ?_ ?_
              ·
                refine WC.seq fun Fh20_ h20_ => ?_
                refine WC.region ?_
                refine RG.op _ _ rfl rfl (o_move (.v _) rfl) ?_
                refine RG.op _ _ rfl rfl (o_ltI rfl rfl) ?_
                refine RG.nil (h20_ _ ?_)
                refine WC.cond _ rfl (fun c16 => ?_) (fun c16 => ?_)
                ·
                  have p16 := c16
                  try simp only [CN] at p16
                  refine WC.region ?_
                  refine RG.op _ _ rfl rfl (o_move (.v _) rfl) ?_
                  refine RG.op _ _ rfl rfl (o_move (.rd _ _) rfl) ?_
                  refine RG.op _ _ rfl rfl (o_len_rd rfl Try.underlying22) ?_
                  refine RG.op _ _ rfl rfl (o_add rfl rfl (by first | omega | exact ubyte _ | (simp only [LS] <;> omega)) (by first | omega | exact ubyte _ | (simp only [LS] <;> omega))) ?_
                  refine RG.op _ _ rfl rfl (o_assign (.v _) rfl) ?_
                  refine RG.nil (Exists.intro ((x.tmod ((putM ts l).getD []).length + ((putM ts l).getD []).length).toNat) ⟨by first | omega | (simp only [LS] <;> omega), ?_⟩)
                  exact .mk' ⟨⟨congrArg I64 (by omega), .v _⟩, trivial⟩ (by repeat (first | with_reducible exact same_refl _ _ | with_reducible refine same_updO (by with_unfolding_all exact rfl) ?_ | with_reducible refine same_updN ?_ | with_reducible refine same_updL (by with_unfolding_all exact rfl) ?_ | with_reducible refine same_forget (by with_unfolding_all exact rfl) ?_)) (rfl) (by repeat (first | exact trivial | refine And.intro (Nat.le_refl _) ?_ | refine And.intro trivial ?_ | refine And.intro (by show _ ≤ _; (first | omega | (simp only [LS] <;> omega))) ?_)) (by repeat (first | exact trivial | refine And.intro (okp (by repeat (first | exact pu_bytes _ | exact pu_nil | exact pu_vs rfl | exact pu_map (fun _ => .v _) _ | exact pu_vals _ | refine pu_app ?_ ?_ | refine pu_cons (by exact pu_of rfl) ?_))) ?_))
                ·
                  have p16 := c16
                  try simp only [CN] at p16
                  refine WC.skip (Exists.intro ((x.tmod ((putM ts l).getD []).length).toNat) ⟨by first | omega | (simp only [LS] <;> omega), ?_⟩)
                  exact .mk' ⟨⟨congrArg I64 (by omega), .v _⟩, trivial⟩ (by repeat (first | with_reducible exact same_refl _ _ | with_reducible refine same_updO (by with_unfolding_all exact rfl) ?_ | with_reducible refine same_updN ?_ | with_reducible refine same_updL (by with_unfolding_all exact rfl) ?_ | with_reducible refine same_forget (by with_unfolding_all exact rfl) ?_)) (rfl) (by repeat (first | exact trivial | refine And.intro (Nat.le_refl _) ?_ | refine And.intro trivial ?_ | refine And.intro (by show _ ≤ _; (first | omega | (simp only [LS] <;> omega))) ?_)) (by repeat (first | exact trivial | refine And.intro (okp (by repeat (first | exact pu_bytes _ | exact pu_nil | exact pu_vs rfl | exact pu_map (fun _ => .v _) _ | exact pu_vals _ | refine pu_app ?_ ?_ | refine pu_cons (by exact pu_of rfl) ?_))) ?_))
              ·
                rintro c hI
                have hC := get_cut0 hok.1 hok.2 hl.inI ht hI
                refine WC.seq fun Fh21_ h21_ => ?_
                refine WC.region ?_
                refine RG.op _ _ rfl rfl (o_move (.rd _ _) rfl) ?_
                refine RG.op _ _ rfl rfl (o_move (.rd _ _) rfl) ?_
                refine RG.op _ _ rfl rfl (o_move (.v _) rfl) ?_
                refine RG.op _ _ rfl rfl (o_takeM c rfl rfl Try.underlying22 (sz_of Ty.inf5) (by first | omega | exact ubyte _ | (simp only [LS] <;> omega)) (by first | omega | exact ubyte _ | (simp only [LS] <;> omega))) ?_
                refine RG.op _ _ rfl rfl (o_call Ty.cal20 (get4_c _ _ (by first | omega | exact ubyte _ | (simp only [LS] <;> omega)) (by first | omega | exact ubyte _ | (simp only [LS] <;> omega))) ⟨.inl rfl, .inl rfl, trivial⟩ (by exact pua rfl)) ?_
                refine RG.op _ _ rfl rfl (o_move (.tup _) rfl) ?_
                refine RG.op _ _ rfl rfl (o_extract rfl rfl) ?_
                refine RG.op _ _ rfl rfl (o_extract rfl rfl) ?_
                refine RG.op _ _ rfl rfl (o_assign (.rd _ _) rfl) ?_
                refine RG.op _ _ rfl rfl (o_assign (.v _) rfl) ?_
                refine RG.nil (h21_ _ ?_)
                refine WC.seq fun Fh22_ h22_ => ?_
                refine WC.region ?_
                refine RG.op _ _ rfl rfl (o_move (.v _) rfl) ?_
                refine RG.op _ _ rfl rfl (o_eqI rfl rfl) ?_
                refine RG.op _ _ rfl rfl (o_move (.v _) rfl) ?_
                refine RG.opg1 _ _ _ _ _ rfl rfl rfl rfl rfl (fun hb => o_call Ty.cal19 (rowPuts) trivial (by exact pua rfl)) ?_
                refine RG.op _ _ rfl rfl (o_and _ _ rfl rfl rfl) ?_
                refine RG.op _ _ rfl rfl (o_assign (.v _) rfl) ?_
                refine RG.nil (h22_ _ ?_)
                refine WC.ret ?_
                exact Ends.r1 rfl (.tmp _ (.v _) rfl) (.v _) (congrArg Bo (by rw [hC]; rfl))
        ·
          have p9 := c9
          try simp only [CN] at p9
          refine WC.skip (h12_ _ ?_)
          refine WC.seq fun Fh23_ h23_ => ?_
          refine WC.seq fun Fh24_ h24_ => ?_
          refine WC.region ?_
          refine RG.op _ _ rfl rfl (o_move (.rd _ _) rfl) ?_
          refine RG.op _ _ rfl rfl (o_len_rd rfl Try.underlying22) ?_
          refine RG.op _ _ rfl rfl (o_eqI rfl rfl) ?_
          refine RG.nil (h24_ _ ?_)
          refine WC.cond _ rfl (fun c13 => ?_) (fun c13 => ?_)
          ·
            have p13 := c13
            try simp only [CN] at p13
            refine WC.seq fun Fh25_ h25_ => ?_
            refine WC.region ?_
            refine RG.op _ _ rfl rfl (o_call Ty.cal19 (rowPuts) trivial (by exact pua rfl)) ?_
            refine RG.op _ _ rfl rfl (o_assign (.v _) rfl) ?_
            refine RG.nil (h25_ _ ?_)
            refine WC.ret ?_
            exact Ends.r1 rfl (.tmp _ (.v _) rfl) (.v _) (rfl)
          ·
            have p13 := c13
            try simp only [CN] at p13
            have hpos : 0 < ((putM ts l).getD []).length := by omega
            have htm := tmod_lt (a := x) hpos
            refine WC.skip (h23_ _ ?_)
            refine WC.seq fun Fh26_ h26_ => ?_
            refine WC.region ?_
            refine RG.op _ _ rfl rfl (o_move (.v _) rfl) ?_
            refine RG.op _ _ rfl rfl (o_move (.rd _ _) rfl) ?_
            refine RG.op _ _ rfl rfl (o_len_rd rfl Try.underlying22) ?_
            refine RG.op _ _ rfl rfl (o_remT rfl rfl (by omega)) ?_
            refine RG.op _ _ rfl rfl (o_assign (.v _) rfl) ?_
            refine RG.nil (h26_ _ ?_)
            refine WC.joinU [17, 84, 85, 86, 87, 88, 89] (fun (c : Nat) => [(17, I64 ((c : Nat) : Int))]) (fun (c : Nat) => []) (fun (c : Nat) => c < ((putM ts l).getD []).length) ?_ ?_
            ·
              refine WC.seq fun Fh27_ h27_ => ?_
              refine WC.region ?_
              refine RG.op _ _ rfl rfl (o_move (.v _) rfl) ?_
              refine RG.op _ _ rfl rfl (o_ltI rfl rfl) ?_
              refine RG.nil (h27_ _ ?_)
              refine WC.cond _ rfl (fun c16 => ?_) (fun c16 => ?_)
              ·
                have p16 := c16
                try simp only [CN] at p16
                refine WC.region ?_
                refine RG.op _ _ rfl rfl (o_move (.v _) rfl) ?_
                refine RG.op _ _ rfl rfl (o_move (.rd _ _) rfl) ?_
                refine RG.op _ _ rfl rfl (o_len_rd rfl Try.underlying22) ?_
                refine RG.op _ _ rfl rfl (o_add rfl rfl (by first | omega | exact ubyte _ | (simp only [LS] <;> omega)) (by first | omega | exact ubyte _ | (simp only [LS] <;> omega))) ?_
                refine RG.op _ _ rfl rfl (o_assign (.v _) rfl) ?_
                refine RG.nil (Exists.intro ((x.tmod ((putM ts l).getD []).length + ((putM ts l).getD []).length).toNat) ⟨by first | omega | (simp only [LS] <;> omega), ?_⟩)
                exact .mk' ⟨⟨congrArg I64 (by omega), .v _⟩, trivial⟩ (by repeat (first | with_reducible exact same_refl _ _ | with_reducible refine same_updO (by with_unfolding_all exact rfl) ?_ | with_reducible refine same_updN ?_ | with_reducible refine same_updL (by with_unfolding_all exact rfl) ?_ | with_reducible refine same_forget (by with_unfolding_all exact rfl) ?_)) (rfl) (by repeat (first | exact trivial | refine And.intro (Nat.le_refl _) ?_ | refine And.intro trivial ?_ | refine And.intro (by show _ ≤ _; (first | omega | (simp only [LS] <;> omega))) ?_)) (by repeat (first | exact trivial | refine And.intro (okp (by repeat (first | exact pu_bytes _ | exact pu_nil | exact pu_vs rfl | exact pu_map (fun _ => .v _) _ | exact pu_vals _ | refine pu_app ?_ ?_ | refine pu_cons (by exact pu_of rfl) ?_))) ?_))
              ·
                have p16 := c16
                try simp only [CN] at p16
                refine WC.skip (Exists.intro ((x.tmod ((putM ts l).getD []).length).toNat) ⟨by first | omega | (simp only [LS] <;> omega), ?_⟩)
                exact .mk' ⟨⟨congrArg I64 (by omega), .v _⟩, trivial⟩ (by repeat (first | with_reducible exact same_refl _ _ | with_reducible refine same_updO (by with_unfolding_all exact rfl) ?_ | with_reducible refine same_updN ?_ | with_reducible refine same_updL (by with_unfolding_all exact rfl) ?_ | with_reducible refine same_forget (by with_unfolding_all exact rfl) ?_)) (rfl) (by repeat (first | exact trivial | refine And.intro (Nat.le_refl _) ?_ | refine And.intro trivial ?_ | refine And.intro (by show _ ≤ _; (first | omega | (simp only [LS] <;> omega))) ?_)) (by repeat (first | exact trivial | refine And.intro (okp (by repeat (first | exact pu_bytes _ | exact pu_nil | exact pu_vs rfl | exact pu_map (fun _ => .v _) _ | exact pu_vals _ | refine pu_app ?_ ?_ | refine pu_cons (by exact pu_of rfl) ?_))) ?_))
            ·
              rintro c hI
              have hC := get_cut0 hok.1 hok.2 hl.inI ht hI
              refine WC.seq fun Fh28_ h28_ => ?_
              refine WC.region ?_
              refine RG.op _ _ rfl rfl (o_move (.rd _ _) rfl) ?_
              refine RG.op _ _ rfl rfl (o_move (.rd _ _) rfl) ?_
              refine RG.op _ _ rfl rfl (o_move (.v _) rfl) ?_
              refine RG.op _ _ rfl rfl (o_takeM c rfl rfl Try.underlying22 (sz_of Ty.inf5) (by first | omega | exact ubyte _ | (simp only [LS] <;> omega)) (by first | omega | exact ubyte _ | (simp only [LS] <;> omega))) ?_
              refine RG.op _ _ rfl rfl (o_call Ty.cal20 (get4_c _ _ (by first | omega | exact ubyte _ | (simp only [LS] <;> omega)) (by first | omega | exact ubyte _ | (simp only [LS] <;> omega))) ⟨.inl rfl, .inl rfl, trivial⟩ (by exact pua rfl)) ?_
              refine RG.op _ _ rfl rfl (o_move (.tup _) rfl) ?_
              refine RG.op _ _ rfl rfl (o_extract rfl rfl) ?_
              refine RG.op _ _ rfl rfl (o_extract rfl rfl) ?_
              refine RG.op _ _ rfl rfl (o_assign (.rd _ _) rfl) ?_
              refine RG.op _ _ rfl rfl (o_assign (.v _) rfl) ?_
              refine RG.nil (h28_ _ ?_)
              refine WC.seq fun Fh29_ h29_ => ?_
              refine WC.region ?_
              refine RG.op _ _ rfl rfl (o_move (.v _) rfl) ?_
              refine RG.op _ _ rfl rfl (o_eqI rfl rfl) ?_
              refine RG.op _ _ rfl rfl (o_move (.v _) rfl) ?_
              refine RG.opg1 _ _ _ _ _ rfl rfl rfl rfl rfl (fun hb => o_call Ty.cal19 (rowPuts) trivial (by exact pua rfl)) ?_
              refine RG.op _ _ rfl rfl (o_and _ _ rfl rfl rfl) ?_
              refine RG.op _ _ rfl rfl (o_assign (.v _) rfl) ?_
              refine RG.nil (h29_ _ ?_)
              refine WC.ret ?_
              exact Ends.r1 rfl (.tmp _ (.v _) rfl) (.v _) (congrArg Bo (by rw [hC]; rfl))
def loV (v : Val) : Nat := if v.k = 1 then 1 else if v.k = 2 then 1 else if v.k = 3 then 1 + v.t.length else 0
def hiV (v : Val) : Nat := if v.k = 1 then 1 else if v.k = 2 then 10 else if v.k = 3 then 2 + v.t.length else 0
def loL (l : List Val) : Nat := (l.map loV).sum
def hiL (l : List Val) : Nat := (l.map hiV).sum
theorem lo_step {l : List Val} {k : Nat} (h : k < l.length) : loL (l.take (k + 1)) = loL (l.take k) + loV l[k] := by
  unfold loL; rw [List.take_succ_eq_append_getElem h, List.map_append, List.sum_append]; simp
theorem hi_step {l : List Val} {k : Nat} (h : k < l.length) : hiL (l.take (k + 1)) = hiL (l.take k) + hiV l[k] := by
  unfold hiL; rw [List.take_succ_eq_append_getElem h, List.map_append, List.sum_append]; simp
theorem lohi_one {v : Val} (hm : mayM v = true) (hi : inI v) (ht : v.t.length ≤ 400) : loV v ≤ (oneR v).length ∧ (oneR v).length ≤ hiV v := by
  rcases may_cases hm with rfl | (rfl | rfl) | ⟨i, rfl⟩ | ⟨t, rfl⟩
  · exact ⟨Nat.le_refl _, Nat.le_refl _⟩
  · exact ⟨Nat.le_refl _, Nat.le_refl _⟩
  · exact ⟨Nat.le_refl _, Nat.le_refl _⟩
  · exact ⟨encB_pos _, encB_len10 (zig_le hi.1 hi.2)⟩
  · have ht : t.length ≤ 400 := ht
    show 1 + t.length ≤ (encB t.length ++ t).length ∧ (encB t.length ++ t).length ≤ 2 + t.length
    have h1 := encB_pos t.length
    have h2 : (encB t.length).length ≤ 2 := by rw [encB_len]; exact enc_len t.length 2 (by omega) (by omega)
    rw [List.length_append]; omega
theorem lohi {l : List Val} (hm : ∀ v ∈ l, mayM v = true) (hi : ∀ v ∈ l, inI v) (ht : ∀ v ∈ l, v.t.length ≤ 400) : loL l ≤ (l.flatMap oneR).length ∧ (l.flatMap oneR).length ≤ hiL l := by
  induction l with
  | nil => exact ⟨Nat.le_refl _, Nat.le_refl _⟩
  | cons v l ih =>
    have h1 := lohi_one (hm v (by simp)) (hi v (by simp)) (ht v (by simp))
    have h2 := ih (fun w hw => hm w (by simp [hw])) (fun w hw => hi w (by simp [hw])) (fun w hw => ht w (by simp [hw]))
    simp only [loL, hiL, List.map_cons, List.sum_cons, List.flatMap_cons, List.length_append] at *; omega
theorem hi_bnd (v : Val) : hiV v ≤ 10 + v.t.length ∧ loV v ≤ hiV v := by
  unfold hiV loV
  repeat' split
  all_goals omega
theorem hi_le {l : List Val} : hiL l ≤ szR l ∧ loL l ≤ hiL l := by
  induction l with
  | nil => exact ⟨by unfold szR; exact Nat.le_refl _, Nat.le_refl _⟩
  | cons v l ih =>
    have h1 := hi_bnd v
    unfold szR at *
    simp only [loL, hiL, List.map_cons, List.sum_cons] at *; omega
theorem k1 {v : Val} (h : v.k = 1) : loV v = 1 ∧ hiV v = 1 := by unfold loV hiV; rw [if_pos h, if_pos h]; exact ⟨rfl, rfl⟩
theorem k2 {v : Val} (h : v.k = 2) : loV v = 1 ∧ hiV v = 10 := by unfold loV hiV; rw [h]; exact ⟨rfl, rfl⟩
theorem k3 {v : Val} (h : v.k = 3) : loV v = 1 + v.t.length ∧ hiV v = 2 + v.t.length := by unfold loV hiV; rw [h]; exact ⟨rfl, rfl⟩
theorem k4 {v : Val} (h1 : ¬ v.k = 1) (h2 : ¬ v.k = 2) (h3 : ¬ v.k = 3) : loV v = 0 ∧ hiV v = 0 := by unfold loV hiV; rw [if_neg h1, if_neg h2, if_neg h3, if_neg h1, if_neg h2, if_neg h3]; exact ⟨rfl, rfl⟩
theorem size_ok {ts : List UInt8} {l : List Val} (h1 : ts.all tyB = true) (h2 : rowM ts l = true) (hi : ∀ v ∈ l, inI v) (ht : ∀ v ∈ l, v.t.length ≤ 400) : nm l + loL l ≤ ((putM ts l).getD []).length ∧ ((putM ts l).getD []).length ≤ nm l + hiL l := by
  rw [put_ok h1 h2]
  show _ ≤ (putB l).length ∧ (putB l).length ≤ _
  unfold putB
  rw [List.length_append, nbits_len]
  have := lohi (all_null h2).2.2 hi ht
  omega
theorem put_err {ts : List UInt8} {l : List Val} (h : ¬ (bif (putM ts l).isSome then (0 : Int) else 1) = 0) : putM ts l = none := by
  cases e : putM ts l with
  | none => rfl
  | some p => rw [e] at h; exact absurd rfl h
set_option maxRecDepth 20000 in
set_option maxHeartbeats 4000000 in
theorem rowsizes_c (ts : List UInt8) (hts : ts.length ≤ 9223372036854775807) (l : List Val) (hl : okL l) : Fun Try.prog 7 [rdB ts, rdV l] (· = Bo true) := by
  have hll := hl.2
  refine Fun.of Try.func7 rfl (Nat.le_of_ble_eq_true rfl) fun C => ?_
  refine WC.seq fun Fh1_ h1_ => ?_
  refine WC.region ?_
  refine RG.op _ _ rfl rfl (o_assign (.v _) rfl) ?_
  refine RG.nil (h1_ _ ?_)
  refine WC.seq fun Fh2_ h2_ => ?_
  refine WC.seq fun Fh3_ h3_ => ?_
  refine WC.region ?_
  refine RG.op _ _ rfl rfl (o_move (.rd _ _) rfl) ?_
  refine RG.op _ _ rfl rfl (o_move (.rd _ _) rfl) ?_
  refine RG.op _ _ rfl rfl (o_call Ty.cal15 (long4_c _ _ (by first | omega | exact ubyte _ | (simp only [LS] <;> omega)) (by first | omega | exact ubyte _ | (simp only [LS] <;> omega))) ⟨.inl rfl, .inl rfl, trivial⟩ (by exact pua rfl)) ?_
  refine RG.nil (h3_ _ ?_)
  refine WC.cond _ rfl (fun c1 => ?_) (fun c1 => ?_)
  ·
    have p1 := c1
    try simp only [CN] at p1
    refine WC.seq fun Fh4_ h4_ => ?_
    refine WC.region ?_
    refine RG.op _ _ rfl rfl (o_assign (.v _) rfl) ?_
    refine RG.nil (h4_ _ ?_)
    refine WC.ret ?_
    exact Ends.r1 rfl (.tmp _ (.v _) rfl) (.v _) (rfl)
  ·
    have p1 := c1
    try simp only [CN] at p1
    have hs := long4_sz p1
    have hs1 := hs.1
    have hs2 := hs.2.1
    have hs3 := hs.2.2.1
    have ht : ∀ v ∈ l, v.t.length ≤ 1099511627776 := fun v hv => Nat.le_trans (hs.2.2.2 v hv) (by decide)
    have hpl := put_len (ts := ts) hl.inI ht
    have hsr := szR_60 hs3
    have hnm := nm_eq l
    refine WC.skip (h2_ _ ?_)
    refine WC.seq fun Fh5_ h5_ => ?_
    refine WC.region ?_
    refine RG.op _ _ rfl rfl (o_move (.rd _ _) rfl) ?_
    refine RG.op _ _ rfl rfl (o_move (.rd _ _) rfl) ?_
    first | refine RG.op _ _ rfl rfl (o_call Ty.cal16 (rput4_c _ _ (by first | omega | exact ubyte _ | (simp only [LS] <;> omega)) (by first | omega | exact ubyte _ | (simp only [LS] <;> omega)) hl.inI ht) ⟨.inl rfl, .inl rfl, trivial⟩ (by exact pua rfl)) ?_ | refine RG.op _ _ rfl rfl (o_call Ty.cal16 (rput4_c _ _ (by first | omega | exact ubyte _ | (simp only [LS] <;> omega)) (by first | omega | exact ubyte _ | (simp only [LS] <;> omega)) hm.inI ht2) ⟨.inl rfl, .inl rfl, trivial⟩ (by exact pua rfl)) ?_
    refine RG.op _ _ rfl rfl (o_move (.tup _) rfl) ?_
    refine RG.op _ _ rfl rfl (o_extract rfl rfl) ?_
    refine RG.op _ _ rfl rfl (o_extract rfl rfl) ?_
    refine RG.op _ _ rfl rfl (o_assign (.rd _ _) rfl) ?_
    refine RG.op _ _ rfl rfl (o_assign (.v _) rfl) ?_
    refine RG.nil (h5_ _ ?_)
    refine WC.seq fun Fh6_ h6_ => ?_
    refine WC.seq fun Fh7_ h7_ => ?_
    refine WC.region ?_
    refine RG.op _ _ rfl rfl (o_move (.v _) rfl) ?_
    refine RG.op _ _ rfl rfl (o_neI rfl rfl) ?_
    refine RG.nil (h7_ _ ?_)
    refine WC.cond _ rfl (fun c4 => ?_) (fun c4 => ?_)
    ·
      have p4 := c4
      try simp only [CN] at p4
      refine WC.seq fun Fh8_ h8_ => ?_
      refine WC.region ?_
      refine RG.op _ _ rfl rfl (o_move (.rd _ _) rfl) ?_
      refine RG.op _ _ rfl rfl (o_len_rd rfl Try.underlying22) ?_
      refine RG.op _ _ rfl rfl (o_eqI rfl rfl) ?_
      refine RG.op _ _ rfl rfl (o_move (.v _) rfl) ?_
      refine RG.opg1 _ _ _ _ _ rfl rfl rfl rfl rfl (fun hb => o_move (.v _) rfl) ?_
      refine RG.opg1 _ _ _ _ _ rfl rfl rfl rfl rfl (fun hb => o_eqI (gdT hb) rfl) ?_
      refine RG.op _ _ rfl rfl (o_and _ _ rfl rfl rfl) ?_
      refine RG.op _ _ rfl rfl (o_move (.v _) rfl) ?_
      refine RG.opg1 _ _ _ _ _ rfl rfl rfl rfl rfl (fun hb => o_call Ty.cal19 (rowPuts) trivial (by exact pua rfl)) ?_
      refine RG.op _ _ rfl rfl (o_and _ _ rfl rfl rfl) ?_
      refine RG.op _ _ rfl rfl (o_assign (.v _) rfl) ?_
      refine RG.nil (h8_ _ ?_)
      refine WC.ret ?_
      exact Ends.r1 rfl (.tmp _ (.v _) rfl) (.v _) (congrArg Bo (by rw [put_err p4]; rfl))
    ·
      have p4 := c4
      try simp only [CN] at p4
      have hok := put_e p4
      have hsz := size_ok hok.1 hok.2 hl.inI hs.2.2.2
      have hhi := hi_le (l := l)
      refine WC.skip (h6_ _ ?_)
      refine WC.seq fun Fh9_ h9_ => ?_
      refine WC.region ?_
      refine RG.op _ _ rfl rfl (o_move (.rd _ _) rfl) ?_
      refine RG.op _ _ rfl rfl (o_len_rd rfl Try.underlying23) ?_
      refine RG.op _ _ rfl rfl (o_add rfl rfl (by first | omega | exact ubyte _ | (simp only [LS] <;> omega)) (by first | omega | exact ubyte _ | (simp only [LS] <;> omega))) ?_
      refine RG.op _ _ rfl rfl (o_quo rfl rfl (by first | omega | exact ubyte _ | (simp only [LS] <;> omega)) (by first | omega | exact ubyte _ | (simp only [LS] <;> omega)) (by first | omega | exact ubyte _ | (simp only [LS] <;> omega))) ?_
      refine RG.op _ _ rfl rfl (o_assign (.v _) rfl) ?_
      refine RG.nil (h9_ _ ?_)
      refine WC.seq fun Fh10_ h10_ => ?_
      refine WC.region ?_
      refine RG.op _ _ rfl rfl (o_move (.v _) rfl) ?_
      refine RG.op _ _ rfl rfl (o_assign (.v _) rfl) ?_
      refine RG.nil (h10_ _ ?_)
      refine WC.seq fun Fh11_ h11_ => ?_
      refine WC.seq fun Fh12_ h12_ => ?_
      refine WC.region ?_
      refine RG.op _ _ rfl rfl (o_assign (.v _) rfl) ?_
      refine RG.nil (h12_ _ ?_)
      refine WC.block ?_
      refine WC.loopU [7, 8, 9, 36, 37, 38, 39, 40, 41, 42, 43, 44, 45, 46, 47, 48, 49, 50, 51, 52, 53, 54, 55, 56, 57, 58, 59, 60, 61, 62, 63, 64, 65, 66, 67, 68, 69, 70, 71, 72, 73, 74, 75, 76, 77, 78] (fun (k : Nat) => [(9, I64 ((k : Nat) : Int)), (7, I64 (((nm l + loL (l.take k)) : Nat) : Int)), (8, I64 (((nm l + hiL (l.take k)) : Nat) : Int))]) (fun (k : Nat) => []) (fun (k : Nat) => k ≤ l.length) (fun (k : Nat) => l.length - k) 0 (by first | omega | exact ubyte _ | (simp only [LS] <;> omega)) ?lpa13_ ?lpb14_
      case lpa13_ =>
        exact .mk' ⟨⟨rfl, .v _⟩, ⟨congrArg I64 (by rw [show loL (l.take 0) = 0 from rfl]; omega), .v _⟩, ⟨congrArg I64 (by rw [show hiL (l.take 0) = 0 from rfl]; omega), .v _⟩, trivial⟩ (same_refl _ _) (rfl) (by repeat (first | exact trivial | refine And.intro (Nat.le_refl _) ?_ | refine And.intro trivial ?_ | refine And.intro (by show _ ≤ _; (first | omega | (simp only [LS] <;> omega))) ?_)) (by repeat (first | exact trivial | refine And.intro (okp (by repeat (first | exact pu_bytes _ | exact pu_nil | exact pu_vs rfl | exact pu_map (fun _ => .v _) _ | exact pu_vals _ | refine pu_app ?_ ?_ | refine pu_cons (by exact pu_of rfl) ?_))) ?_))
      case lpb14_ =>
        rintro k hI
        have hk2 := hi_le (l := l.take k)
        have hk3 := szR_take l k
        refine WC.seq fun Fh15_ h15_ => ?_
        refine WC.seq fun Fh16_ h16_ => ?_
        refine WC.region ?_
        refine RG.op _ _ rfl rfl (o_move (.v _) rfl) ?_
        refine RG.op _ _ rfl rfl (o_move (.rd _ _) rfl) ?_
        refine RG.op _ _ rfl rfl (o_len_rd rfl Try.underlying23) ?_
        refine RG.op _ _ rfl rfl (o_ltI rfl rfl) ?_
        refine RG.nil (h16_ _ ?_)
        refine WC.cond _ rfl (fun c9 => ?_) (fun c9 => ?_)
        ·
          have p9 := c9
          try simp only [CN] at p9
          have hkl : k < l.length := by omega
          have hlo := lo_step hkl
          have hhs := hi_step hkl
          have htk := hs.2.2.2 _ (List.getElem_mem hkl)
          refine WC.skip (h15_ _ ?_)
          refine WC.seq fun Fh17_ h17_ => ?_
          refine WC.block ?_
          refine WC.seq fun Fh18_ h18_ => ?_
          refine WC.region ?_
          refine RG.op _ _ rfl rfl (o_move (.rd _ _) rfl) ?_
          refine RG.op _ _ rfl rfl (o_move (.v _) rfl) ?_
          refine RG.op _ _ rfl rfl (o_ixn_L k vc_len rfl rfl rfl Try.underlying23 (sz_of Ty.inf37) (by first | omega | exact ubyte _ | (simp only [LS] <;> omega)) (by first | omega | exact ubyte _ | (simp only [LS] <;> omega))) ?_
          refine RG.op _ _ rfl rfl (o_fld_adr rfl Try.underlying37 rfl (sz_of Ty.inf5) (by decide)) ?_
          refine RG.op _ _ rfl rfl (o_load_adr rfl Try.underlying5 rfl rfl) ?_
          refine RG.nil (h18_ _ ?_)
          refine WC.block ?_
          refine WC.seq fun Fh19_ h19_ => ?_
          refine WC.region ?_
          refine RG.op _ _ rfl rfl (o_eqB (b := 1) rfl rfl) ?_
          refine RG.op _ _ rfl rfl (o_assign (.v _) rfl) ?_
          refine RG.nil (h19_ _ ?_)
          refine WC.cond _ rfl (fun c12 => ?_) (fun c12 => ?_)
          ·
            have p12 := c12
            try simp only [CN] at p12
            have hkk := k1 (v := l[k]) (by simpa using c12)
            refine WC.seq fun Fh20_ h20_ => ?_
            refine WC.region ?_
            refine RG.op _ _ rfl rfl (o_move (.v _) rfl) ?_
            refine RG.op _ _ rfl rfl (o_add rfl rfl (by first | omega | exact ubyte _ | (simp only [LS] <;> omega)) (by first | omega | exact ubyte _ | (simp only [LS] <;> omega))) ?_
            refine RG.op _ _ rfl rfl (o_assign (.v _) rfl) ?_
            refine RG.nil (h20_ _ ?_)
            refine WC.region ?_
            refine RG.op _ _ rfl rfl (o_move (.v _) rfl) ?_
            refine RG.op _ _ rfl rfl (o_add rfl rfl (by first | omega | exact ubyte _ | (simp only [LS] <;> omega)) (by first | omega | exact ubyte _ | (simp only [LS] <;> omega))) ?_
            refine RG.op _ _ rfl rfl (o_assign (.v _) rfl) ?_
            refine RG.nil (h17_ _ ?_)
            refine WC.region ?_
            refine RG.op _ _ rfl rfl (o_move (.v _) rfl) ?_
            refine RG.op _ _ rfl rfl (o_add rfl rfl (by first | omega | exact ubyte _ | (simp only [LS] <;> omega)) (by first | omega | exact ubyte _ | (simp only [LS] <;> omega))) ?_
            refine RG.op _ _ rfl rfl (o_assign (.v _) rfl) ?_
            refine RG.nil (Exists.intro (k + 1) ⟨by first | omega | (simp only [LS] <;> omega), by first | omega | (simp only [LS] <;> omega), ?_⟩)
            exact .mk' ⟨⟨rfl, .v _⟩, ⟨congrArg I64 (by omega), .v _⟩, ⟨congrArg I64 (by omega), .v _⟩, trivial⟩ (by repeat (first | with_reducible exact same_refl _ _ | with_reducible refine same_updO (by with_unfolding_all exact rfl) ?_ | with_reducible refine same_updN ?_ | with_reducible refine same_updL (by with_unfolding_all exact rfl) ?_ | with_reducible refine same_forget (by with_unfolding_all exact rfl) ?_)) (rfl) (by repeat (first | exact trivial | refine And.intro (Nat.le_refl _) ?_ | refine And.intro trivial ?_ | refine And.intro (by show _ ≤ _; (first | omega | (simp only [LS] <;> omega))) ?_)) (by repeat (first | exact trivial | refine And.intro (okp (by repeat (first | exact pu_bytes _ | exact pu_nil | exact pu_vs rfl | exact pu_map (fun _ => .v _) _ | exact pu_vals _ | refine pu_app ?_ ?_ | refine pu_cons (by exact pu_of rfl) ?_))) ?_))
          ·
            have p12 := c12
            try simp only [CN] at p12
            refine WC.seq fun Fh21_ h21_ => ?_
            refine WC.region ?_
            refine RG.op _ _ rfl rfl (o_eqB (b := 2) rfl rfl) ?_
            refine RG.op _ _ rfl rfl (o_assign (.v _) rfl) ?_
            refine RG.nil (h21_ _ ?_)
            refine WC.cond _ rfl (fun c15 => ?_) (fun c15 => ?_)
            ·
              have p15 := c15
              try simp only [CN] at p15
              have hkk := k2 (v := l[k]) (by simpa using c15)
              refine WC.seq fun Fh22_ h22_ => ?_
              refine WC.region ?_
              refine RG.op _ _ rfl rfl (o_move (.v _) rfl) ?_
              refine RG.op _ _ rfl rfl (o_add rfl rfl (by first | omega | exact ubyte _ | (simp only [LS] <;> omega)) (by first | omega | exact ubyte _ | (simp only [LS] <;> omega))) ?_
              refine RG.op _ _ rfl rfl (o_assign (.v _) rfl) ?_
              refine RG.nil (h22_ _ ?_)
              refine WC.region ?_
              refine RG.op _ _ rfl rfl (o_move (.v _) rfl) ?_
              refine RG.op _ _ rfl rfl (o_add rfl rfl (by first | omega | exact ubyte _ | (simp only [LS] <;> omega)) (by first | omega | exact ubyte _ | (simp only [LS] <;> omega))) ?_
              refine RG.op _ _ rfl rfl (o_assign (.v _) rfl) ?_
              refine RG.nil (h17_ _ ?_)
              refine WC.region ?_
              refine RG.op _ _ rfl rfl (o_move (.v _) rfl) ?_
              refine RG.op _ _ rfl rfl (o_add rfl rfl (by first | omega | exact ubyte _ | (simp only [LS] <;> omega)) (by first | omega | exact ubyte _ | (simp only [LS] <;> omega))) ?_
              refine RG.op _ _ rfl rfl (o_assign (.v _) rfl) ?_
              refine RG.nil (Exists.intro (k + 1) ⟨by first | omega | (simp only [LS] <;> omega), by first | omega | (simp only [LS] <;> omega), ?_⟩)
              exact .mk' ⟨⟨rfl, .v _⟩, ⟨congrArg I64 (by omega), .v _⟩, ⟨congrArg I64 (by omega), .v _⟩, trivial⟩ (by repeat (first | with_reducible exact same_refl _ _ | with_reducible refine same_updO (by with_unfolding_all exact rfl) ?_ | with_reducible refine same_updN ?_ | with_reducible refine same_updL (by with_unfolding_all exact rfl) ?_ | with_reducible refine same_forget (by with_unfolding_all exact rfl) ?_)) (rfl) (by repeat (first | exact trivial | refine And.intro (Nat.le_refl _) ?_ | refine And.intro trivial ?_ | refine And.intro (by show _ ≤ _; (first | omega | (simp only [LS] <;> omega))) ?_)) (by repeat (first | exact trivial | refine And.intro (okp (by repeat (first | exact pu_bytes _ | exact pu_nil | exact pu_vs rfl | exact pu_map (fun _ => .v _) _ | exact pu_vals _ | refine pu_app ?_ ?_ | refine pu_cons (by exact pu_of rfl) ?_))) ?_))
            ·
              have p15 := c15
              try simp only [CN] at p15
              refine WC.seq fun Fh23_ h23_ => ?_
              refine WC.region ?_
              refine RG.op _ _ rfl rfl (o_eqB (b := 3) rfl rfl) ?_
              refine RG.op _ _ rfl rfl (o_assign (.v _) rfl) ?_
              refine RG.nil (h23_ _ ?_)
              refine WC.cond _ rfl (fun c18 => ?_) (fun c18 => ?_)
              ·
                have p18 := c18
                try simp only [CN] at p18
                have hkk := k3 (v := l[k]) (by simpa using c18)
                refine WC.seq fun Fh24_ h24_ => ?_
                refine WC.region ?_
                refine RG.op _ _ rfl rfl (o_move (.v _) rfl) ?_
                refine RG.op _ _ rfl rfl (o_add rfl rfl (by first | omega | exact ubyte _ | (simp only [LS] <;> omega)) (by first | omega | exact ubyte _ | (simp only [LS] <;> omega))) ?_
                refine RG.op _ _ rfl rfl (o_move (.rd _ _) rfl) ?_
                refine RG.op _ _ rfl rfl (o_move (.v _) rfl) ?_
                refine RG.op _ _ rfl rfl (o_ixn_L k vc_len rfl rfl rfl Try.underlying23 (sz_of Ty.inf37) (by first | omega | exact ubyte _ | (simp only [LS] <;> omega)) (by first | omega | exact ubyte _ | (simp only [LS] <;> omega))) ?_
                refine RG.op _ _ rfl rfl (o_fld_adr rfl Try.underlying37 rfl (sz_of Ty.inf9) (by decide)) ?_
                refine RG.op _ _ rfl rfl (o_load_adr rfl Try.underlying9 rfl rfl) ?_
                refine RG.op _ _ rfl rfl (o_lenS rfl Try.underlying9) ?_
                refine RG.op _ _ rfl rfl (o_add rfl rfl (by first | omega | exact ubyte _ | (simp only [LS] <;> omega)) (by first | omega | exact ubyte _ | (simp only [LS] <;> omega))) ?_
                refine RG.op _ _ rfl rfl (o_assign (.v _) rfl) ?_
                refine RG.nil (h24_ _ ?_)
                refine WC.region ?_
                refine RG.op _ _ rfl rfl (o_move (.v _) rfl) ?_
                refine RG.op _ _ rfl rfl (o_add rfl rfl (by first | omega | exact ubyte _ | (simp only [LS] <;> omega)) (by first | omega | exact ubyte _ | (simp only [LS] <;> omega))) ?_
                refine RG.op _ _ rfl rfl (o_move (.rd _ _) rfl) ?_
                refine RG.op _ _ rfl rfl (o_move (.v _) rfl) ?_
                refine RG.op _ _ rfl rfl (o_ixn_L k vc_len rfl rfl rfl Try.underlying23 (sz_of Ty.inf37) (by first | omega | exact ubyte _ | (simp only [LS] <;> omega)) (by first | omega | exact ubyte _ | (simp only [LS] <;> omega))) ?_
                refine RG.op _ _ rfl rfl (o_fld_adr rfl Try.underlying37 rfl (sz_of Ty.inf9) (by decide)) ?_
                refine RG.op _ _ rfl rfl (o_load_adr rfl Try.underlying9 rfl rfl) ?_
                refine RG.op _ _ rfl rfl (o_lenS rfl Try.underlying9) ?_
                refine RG.op _ _ rfl rfl (o_add rfl rfl (by first | omega | exact ubyte _ | (simp only [LS] <;> omega)) (by first | omega | exact ubyte _ | (simp only [LS] <;> omega))) ?_
                refine RG.op _ _ rfl rfl (o_assign (.v _) rfl) ?_
                refine RG.nil (h17_ _ ?_)
                refine WC.region ?_
                refine RG.op _ _ rfl rfl (o_move (.v _) rfl) ?_
                refine RG.op _ _ rfl rfl (o_add rfl rfl (by first | omega | exact ubyte _ | (simp only [LS] <;> omega)) (by first | omega | exact ubyte _ | (simp only [LS] <;> omega))) ?_
                refine RG.op _ _ rfl rfl (o_assign (.v _) rfl) ?_
                refine RG.nil (Exists.intro (k + 1) ⟨by first | omega | (simp only [LS] <;> omega), by first | omega | (simp only [LS] <;> omega), ?_⟩)
                exact .mk' ⟨⟨rfl, .v _⟩, ⟨congrArg I64 (by omega), .v _⟩, ⟨congrArg I64 (by omega), .v _⟩, trivial⟩ (by repeat (first | with_reducible exact same_refl _ _ | with_reducible refine same_updO (by with_unfolding_all exact rfl) ?_ | with_reducible refine same_updN ?_ | with_reducible refine same_updL (by with_unfolding_all exact rfl) ?_ | with_reducible refine same_forget (by with_unfolding_all exact rfl) ?_)) (rfl) (by repeat (first | exact trivial | refine And.intro (Nat.le_refl _) ?_ | refine And.intro trivial ?_ | refine And.intro (by show _ ≤ _; (first | omega | (simp only [LS] <;> omega))) ?_)) (by repeat (first | exact trivial | refine And.intro (okp (by repeat (first | exact pu_bytes _ | exact pu_nil | exact pu_vs rfl | exact pu_map (fun _ => .v _) _ | exact pu_vals _ | refine pu_app ?_ ?_ | refine pu_cons (by exact pu_of rfl) ?_))) ?_))
              ·
                have p18 := c18
                try simp only [CN] at p18
                have hkk := k4 (v := l[k]) (by simpa using c12) (by simpa using c15) (by simpa using c18)
                refine WC.skip (h17_ _ ?_)
                refine WC.region ?_
                refine RG.op _ _ rfl rfl (o_move (.v _) rfl) ?_
                refine RG.op _ _ rfl rfl (o_add rfl rfl (by first | omega | exact ubyte _ | (simp only [LS] <;> omega)) (by first | omega | exact ubyte _ | (simp only [LS] <;> omega))) ?_
                refine RG.op _ _ rfl rfl (o_assign (.v _) rfl) ?_
                refine RG.nil (Exists.intro (k + 1) ⟨by first | omega | (simp only [LS] <;> omega), by first | omega | (simp only [LS] <;> omega), ?_⟩)
                exact .mk' ⟨⟨rfl, .v _⟩, ⟨congrArg I64 (by omega), .v _⟩, ⟨congrArg I64 (by omega), .v _⟩, trivial⟩ (by repeat (first | with_reducible exact same_refl _ _ | with_reducible refine same_updO (by with_unfolding_all exact rfl) ?_ | with_reducible refine same_updN ?_ | with_reducible refine same_updL (by with_unfolding_all exact rfl) ?_ | with_reducible refine same_forget (by with_unfolding_all exact rfl) ?_)) (rfl) (by repeat (first | exact trivial | refine And.intro (Nat.le_refl _) ?_ | refine And.intro trivial ?_ | refine And.intro (by show _ ≤ _; (first | omega | (simp only [LS] <;> omega))) ?_)) (by repeat (first | exact trivial | refine And.intro (okp (by repeat (first | exact pu_bytes _ | exact pu_nil | exact pu_vs rfl | exact pu_map (fun _ => .v _) _ | exact pu_vals _ | refine pu_app ?_ ?_ | refine pu_cons (by exact pu_of rfl) ?_))) ?_))
        ·
          have p9 := c9
          try simp only [CN] at p9
          refine WC.exit (h11_ _ ?_)
          refine WC.seq fun Fh25_ h25_ => ?_
          refine WC.region ?_
          refine RG.op _ _ rfl rfl (o_move (.rd _ _) rfl) ?_
          refine RG.op _ _ rfl rfl (o_len_rd rfl Try.underlying22) ?_
          refine RG.op _ _ rfl rfl (o_move (.v _) rfl) ?_
          refine RG.op _ _ rfl rfl (o_geI rfl rfl) ?_
          refine RG.op _ _ rfl rfl (o_move (.v _) rfl) ?_
          refine RG.opg1 _ _ _ _ _ rfl rfl rfl rfl rfl (fun hb => o_move (.rd _ _) rfl) ?_
          refine RG.opg1 _ _ _ _ _ rfl rfl rfl rfl rfl (fun hb => o_len_rd (gdT hb) Try.underlying22) ?_
          refine RG.opg1 _ _ _ _ _ rfl rfl rfl rfl rfl (fun hb => o_move (.v _) rfl) ?_
          refine RG.opg1 _ _ _ _ _ rfl rfl rfl rfl rfl (fun hb => o_leI (gdT hb) (gdT hb)) ?_
          refine RG.op _ _ rfl rfl (o_and _ _ rfl rfl rfl) ?_
          refine RG.op _ _ rfl rfl (o_move (.v _) rfl) ?_
          refine RG.opg1 _ _ _ _ _ rfl rfl rfl rfl rfl (fun hb => o_call Ty.cal19 (rowPuts) trivial (by exact pua rfl)) ?_
          refine RG.op _ _ rfl rfl (o_and _ _ rfl rfl rfl) ?_
          refine RG.op _ _ rfl rfl (o_assign (.v _) rfl) ?_
          refine RG.nil (h25_ _ ?_)
          refine WC.ret ?_
          exact Ends.r1 rfl (.tmp _ (.v _) rfl) (.v _) (congrArg Bo (by have e : k = l.length := (by omega); subst e; rw [List.take_length]; rw [decide_eq_true (by omega), decide_eq_true (by omega)]; rfl))
end Go.Proofs.Ytbdibcpenihpdaa
