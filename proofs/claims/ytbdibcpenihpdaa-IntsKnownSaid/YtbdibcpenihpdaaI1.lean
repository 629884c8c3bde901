/-
  Layer ints: a difference, round at 2^64; the program's Put. No condition.
-/
import Derived.Test.YtbdibcpenihpdaaV3
import Derived.Test.YtbdibcpenihpdaaDlRh
import Derived.Test.YtbdibcpenihpdaaDlS
import Derived.Test.YtbdibcpenihpdaaDlU
set_option linter.unusedSimpArgs false
set_option linter.unusedVariables false
namespace Go.Proofs.Ytbdibcpenihpdaa
open Go.RowKit Go.DL

def wrapI (a b : Int) : Int := sgn ((a - b) % 18446744073709551616).toNat
def encP (p : Nat × Int) : List UInt8 := encB p.1 ++ encB (zigN p.2)
/-- Pairs that are pairs. -/
def okP (p : Nat × Int) : Prop := p.1 ≤ 18446744073709551615 ∧ -9223372036854775808 ≤ p.2 ∧ p.2 ≤ 9223372036854775807
theorem encP_len {p : Nat × Int} (h : okP p) : (encP p).length ≤ 20 := by
  have h1 := encB_len10 h.1
  have h2 := encB_len10 (zig_le h.2.1 h.2.2)
  unfold encP
  rw [List.length_append]; omega
abbrev p0 : Nat × Int := (0, 0)
def bytesP (l : List (Nat × Int)) (k : Nat) : List UInt8 := (l.take k).flatMap encP
theorem bytesP_step {l : List (Nat × Int)} {k : Nat} (h : k < l.length) : bytesP l (k + 1) = bytesP l k ++ encP (l.getD k p0) := by
  unfold bytesP
  rw [List.take_succ_eq_append_getElem h, List.flatMap_append]; simp [List.getD, h]
theorem bytesP_len {l : List (Nat × Int)} (hl : ∀ p ∈ l, okP p) (k : Nat) : (bytesP l k).length ≤ 20 * l.length := by
  unfold bytesP
  have : ∀ m : List (Nat × Int), (∀ p ∈ m, okP p) → (m.flatMap encP).length ≤ 20 * m.length := by
    intro m hm
    induction m with
    | nil => simp
    | cons p m ih =>
      have h1 := encP_len (hm p (by simp))
      have h2 := ih fun q hq => hm q (by simp [hq])
      simp only [List.flatMap_cons, List.length_append, List.length_cons] at *; omega
  have h1 := this (l.take k) fun p hp => hl p (List.mem_of_mem_take hp)
  have h2 : (l.take k).length ≤ l.length := by rw [List.length_take]; omega
  omega
/-- The blocks behind k pairs: the cell of the row, the row. -/
abbrev putH (l : List (Nat × Int)) (k : Nat) : Heap := [some ⟨[ow 1 (bytesP l k).length 1], 22, false, 0⟩, tb 5 (bytesP l k).length (bytesD (bytesP l k))]
theorem putH_eq {l : List (Nat × Int)} {k n : Nat} {cs : List D} (h1 : n = (bytesP l k).length) (h2 : cs = bytesD (bytesP l k)) : ([some ⟨[ow 1 n 1], 22, false, 0⟩, tb 5 n cs] : Heap) = putH l k := by subst h1 h2; rfl
theorem putH_ok (l : List (Nat × Int)) (k : Nat) : OkH (putH l k) (putH l k) := ⟨fun c hc => by
    have hc : c ∈ [ow 1 (bytesP l k).length 1] := hc
    rw [List.mem_singleton] at hc
    subst hc
    exact .own _ _ _ _ _ (Nat.le_refl (bytesP l k).length), okp (pu_bytes _), trivial⟩
set_option maxHeartbeats 4000000 in
theorem iput_c (l : List Int) (prs : List (Nat × Int)) (hp : ∀ p ∈ prs, okP p) (hpl : prs.length ≤ 1099511627776) (hruns : Fun Try.prog 38 [rdI l] (· = .fn (.func 55) [.adr [rdI l]])) (hit : Iter Try.prog 55 [.adr [rdI l]] 2 (putH prs) prs.length (fun k => [N64 (prs.getD k p0).1, I64 (prs.getD k p0).2])) : Fun Try.prog 24 [rdI l] (· = rdB (bytesP prs prs.length)) := by
  refine Fun.ofR Try.func24 rfl (Nat.le_of_ble_eq_true rfl) fun C hrd => ?_
  refine WC.seq fun Fh1_ h1_ => ?_
  refine WC.region ?_
  refine RG.op _ _ rfl rfl (o_assign (.v _) rfl) ?_
  refine RG.nil (h1_ _ ?_)
  refine WC.seq fun Fh2_ h2_ => ?_
  refine WC.region ?_
  refine RG.op _ _ rfl rfl (o_alloc (z_of Ty.inf22) rfl) ?_
  refine RG.nil (h2_ _ ?_)
  refine WC.seq fun Fh3_ h3_ => ?_
  refine WC.seq fun Fh4_ h4_ => ?_
  refine WC.nilCell 0 0 _ 5 1 rfl rfl ?_
  refine WC.region ?_
  refine RG.op _ _ rfl rfl (o_move (.rd _ _) rfl) ?_
  refine RG.op _ _ rfl rfl (o_call Ty.cal38 (hruns) ⟨.inl rfl, trivial⟩ (by exact pua rfl)) ?_
  refine RG.nil (h4_ _ ?_)
  refine WC.block ?_
  refine WC.rangeFunc (f := 55) (cs := [.adr [rdI l]]) (ar := 2) (fun (k : Nat) => putH prs k) prs.length (fun (k : Nat) => [N64 (prs.getD k p0).1, I64 (prs.getD k p0).2]) hrd (.inl rfl) Ty.cal55 (rfl) (fun k _ => VLe.le ⟨Nat.le_refl _, Nat.zero_le _, trivial⟩) (fun _ _ => Nat.le_refl 2) rfl (by decide) (hit) (fun k hk C_ => ?_) ?_
  ·
    have hlk := bytesP_len hp k
    have hok := hp _ (List.getElem_mem hk)
    have eg : prs.getD k p0 = prs[k] := by simp [List.getD, hk]
    have hc1 : (prs.getD k p0).1 ≤ 18446744073709551615 := by rw [eg]; exact hok.1
    have hc2 : -9223372036854775808 ≤ (prs.getD k p0).2 := by rw [eg]; exact hok.2.1
    have hc3 : (prs.getD k p0).2 ≤ 9223372036854775807 := by rw [eg]; exact hok.2.2
    have hc4 := encB_len10 hc1
    have hc5 := zig_le hc2 hc3
    have hc6 := encB_len10 hc5
    refine WC.seq fun Fh5_ h5_ => ?_
    refine WC.region ?_
    refine RG.op _ _ rfl rfl (o_assign (.v _) rfl) ?_
    refine RG.nil (h5_ _ ?_)
    refine WC.region ?_
    refine RG.op _ _ rfl rfl (o_assign (.v _) rfl) ?_
    refine RG.nil (fun C2_ => ?_)
    refine WC.block ?_
    refine WC.seq fun Fh6_ h6_ => ?_
    refine WC.drawn2 (by kernel_rfl) ?_
    refine PG.opm _ _ rfl rfl rfl (o_load_ptr (d := ow 1 (bytesP prs k).length 1) rfl Try.underlying22 rfl rfl rfl rfl) ?_
    refine PG.op _ rfl rfl rfl (fun _ _ => o_move (.v _) rfl) ?_
    refine PG.op _ rfl rfl rfl (fun _ _ => o_call Ty.cal39 (vput_c [] _ (by first | omega | exact ubyte _ | (simp only [LS] <;> omega)) (by first | omega | exact ubyte _ | (simp only [LS] <;> omega))) ⟨.inr ⟨rfl, rfl⟩, .inl rfl, trivial⟩ (by exact pua rfl)) ?_
    refine PG.opm _ _ rfl rfl rfl (o_appT (Elem.of Try.underlying22 Ty.inf5 rfl (by decide)) rfl rfl rfl (by first | omega | exact ubyte _ | (simp only [LS] <;> omega)) (by first | omega | exact ubyte _ | (simp only [LS] <;> omega)) (by repeat (first | exact bytesD_one _ | exact one_nil | exact one_map (fun _ => rfl) _ | exact one_vals _ | refine one_app ?_ ?_ | refine one_cons rfl ?_)) (by first | omega | exact ubyte _ | (simp only [LS] <;> omega)) (by first | omega | exact ubyte _ | (simp only [LS] <;> omega))) ?_
    refine PG.opm _ _ rfl rfl rfl (o_store (d := (.own _ _ _ _ _)) rfl rfl rfl rfl (sz_of Ty.inf22) (Nat.le_of_ble_eq_true rfl) rfl) ?_
    refine PG.nil ⟨by kernel_rfl, trivial, (h6_ _ ?_)⟩
    refine WC.drawn2 (by kernel_rfl) ?_
    refine PG.opm _ _ rfl rfl rfl (o_load_ptr (d := ow 1 ((bytesP prs k).length + (encB (prs.getD k p0).1).length) 1) rfl Try.underlying22 rfl rfl rfl rfl) ?_
    refine PG.op _ rfl rfl rfl (fun _ _ => o_move (.v _) rfl) ?_
    refine PG.op _ rfl rfl rfl (fun _ _ => o_call Ty.cal40 (vzig_c _ (by first | omega | exact ubyte _ | (simp only [LS] <;> omega)) (by first | omega | exact ubyte _ | (simp only [LS] <;> omega))) ⟨.inl rfl, trivial⟩ (by exact pua rfl)) ?_
    refine PG.op _ rfl rfl rfl (fun _ _ => o_call Ty.cal39 (vput_c [] _ (by first | omega | exact ubyte _ | (simp only [LS] <;> omega)) (by first | omega | exact ubyte _ | (simp only [LS] <;> omega))) ⟨.inr ⟨rfl, rfl⟩, .inl rfl, trivial⟩ (by exact pua rfl)) ?_
    refine PG.opm _ _ rfl rfl rfl (o_appT (Elem.of Try.underlying22 Ty.inf5 rfl (by decide)) rfl rfl rfl (by first | omega | exact ubyte _ | (simp only [LS] <;> omega)) (by first | omega | exact ubyte _ | (simp only [LS] <;> omega)) (by repeat (first | exact bytesD_one _ | exact one_nil | exact one_map (fun _ => rfl) _ | exact one_vals _ | refine one_app ?_ ?_ | refine one_cons rfl ?_)) (by first | omega | exact ubyte _ | (simp only [LS] <;> omega)) (by first | omega | exact ubyte _ | (simp only [LS] <;> omega))) ?_
    refine PG.opm _ _ rfl rfl rfl (o_store (d := (.own _ _ _ _ _)) rfl rfl rfl rfl (sz_of Ty.inf22) (Nat.le_of_ble_eq_true rfl) rfl) ?_
    refine PG.nil ⟨by kernel_rfl, trivial, ⟨rfl, ?_, ?_⟩⟩
    · exact putH_eq (by rw [bytesP_step hk]; simp [encP]; omega) (by rw [bytesP_step hk]; simp [encP, bytesD_app])
    · exact (putH_ok _ _)
  ·
    skip
    refine (h3_ _ ?_)
    refine WC.seq fun Fh7_ h7_ => ?_
    refine WC.region ?_
    refine RG.op _ _ rfl rfl (o_load_ptr (d := ow 1 (bytesP prs prs.length).length 1) rfl Try.underlying22 rfl rfl rfl rfl) ?_
    refine RG.op _ _ rfl rfl (o_assign (.own _ _ _ _ _) rfl) ?_
    refine RG.nil (h7_ _ ?_)
    refine WC.ret ?_
    exact Ends.r1 rfl (.tmp _ (.own _ _ _ _ _) rfl) (.tb rfl (by repeat (first | exact pu_bytes _ | exact pu_nil | exact pu_vs rfl | exact pu_map (fun _ => .v _) _ | exact pu_vals _ | refine pu_app ?_ ?_ | refine pu_cons (by exact pu_of rfl) ?_))) (rfl)
end Go.Proofs.Ytbdibcpenihpdaa
