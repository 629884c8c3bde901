/-
  Layer agg: the table of aggregates; states, what is fed, added and answered. No condition but a state's size.
-/
import Derived.Test.YtpacdeiaimfiaaaH4
import Derived.Test.YtpacdeiaimfiaaaDlU
set_option linter.unusedSimpArgs false
set_option linter.unusedVariables false
namespace Go.Proofs.Ytpacdeiaimfiaaa
open Go.RowKit Go.DL
set_option maxRecDepth 8000
def aks : List Value := [.int .u8 21, .int .u8 22, .int .u8 23, .int .u8 26, .int .u8 24, .int .u8 25, .int .u8 27, .int .u8 28]
abbrev wy (n : Int) (a b c : Nat) : D := .agg [I64 n, fnD a, fnD b, fnD c]
def acs : List D := [wy 0 23 24 25, wy 1 26 24 25, wy 1 27 24 28, wy 1 27 24 29, wy 1 30 31 32, wy 1 33 34 32, wy 2 35 36 32, wy 2 37 38 32]
theorem pu_acs : ∀ d ∈ acs, Pure' d := pu_cons (pu_of rfl) (pu_cons (pu_of rfl) (pu_cons (pu_of rfl) (pu_cons (pu_of rfl) (pu_cons (pu_of rfl) (pu_cons (pu_of rfl) (pu_cons (pu_of rfl) (pu_cons (pu_of rfl) pu_nil)))))))
set_option maxHeartbeats 4000000 in
theorem table_c : Fun Try.prog 18 [] (· = .mp aks acs) := by
  refine Fun.of Try.func18 rfl (Nat.le_of_ble_eq_true rfl) fun C => ?_
  refine WC.seq fun Fh1_ h1_ => ?_
  refine WC.region ?_
  refine RG.op _ _ rfl rfl (o_assign (.v _) rfl) ?_
  refine RG.nil (h1_ _ ?_)
  refine WC.seq fun Fh2_ h2_ => ?_
  refine WC.region ?_
  refine RG.op _ _ rfl rfl (o_makeMap trivial) ?_
  refine RG.op _ _ rfl rfl (o_build (cs := [(.v _), (.v _), (.v _), (.v _)]) Try.underlying53 Ty.inf53 (Ty.pl53 Try.underlying53) rfl) ?_
  refine RG.op _ _ rfl rfl (o_insert (d := (.agg [_, _, _, _])) rfl rfl rfl Try.underlying60 Try.underlying5 rfl rfl rfl rfl) ?_
  refine RG.op _ _ rfl rfl (o_build (cs := [(.v _), (.v _), (.v _), (.v _)]) Try.underlying53 Ty.inf53 (Ty.pl53 Try.underlying53) rfl) ?_
  refine RG.op _ _ rfl rfl (o_insert (d := (.agg [_, _, _, _])) rfl rfl rfl Try.underlying60 Try.underlying5 rfl rfl rfl rfl) ?_
  refine RG.op _ _ rfl rfl (o_build (cs := [(.v _), (.v _), (.v _), (.v _)]) Try.underlying53 Ty.inf53 (Ty.pl53 Try.underlying53) rfl) ?_
  refine RG.op _ _ rfl rfl (o_insert (d := (.agg [_, _, _, _])) rfl rfl rfl Try.underlying60 Try.underlying5 rfl rfl rfl rfl) ?_
  refine RG.op _ _ rfl rfl (o_build (cs := [(.v _), (.v _), (.v _), (.v _)]) Try.underlying53 Ty.inf53 (Ty.pl53 Try.underlying53) rfl) ?_
  refine RG.op _ _ rfl rfl (o_insert (d := (.agg [_, _, _, _])) rfl rfl rfl Try.underlying60 Try.underlying5 rfl rfl rfl rfl) ?_
  refine RG.op _ _ rfl rfl (o_build (cs := [(.v _), (.v _), (.v _), (.v _)]) Try.underlying53 Ty.inf53 (Ty.pl53 Try.underlying53) rfl) ?_
  refine RG.op _ _ rfl rfl (o_insert (d := (.agg [_, _, _, _])) rfl rfl rfl Try.underlying60 Try.underlying5 rfl rfl rfl rfl) ?_
  refine RG.op _ _ rfl rfl (o_build (cs := [(.v _), (.v _), (.v _), (.v _)]) Try.underlying53 Ty.inf53 (Ty.pl53 Try.underlying53) rfl) ?_
  refine RG.op _ _ rfl rfl (o_insert (d := (.agg [_, _, _, _])) rfl rfl rfl Try.underlying60 Try.underlying5 rfl rfl rfl rfl) ?_
  refine RG.op _ _ rfl rfl (o_build (cs := [(.v _), (.v _), (.v _), (.v _)]) Try.underlying53 Ty.inf53 (Ty.pl53 Try.underlying53) rfl) ?_
  refine RG.op _ _ rfl rfl (o_insert (d := (.agg [_, _, _, _])) rfl rfl rfl Try.underlying60 Try.underlying5 rfl rfl rfl rfl) ?_
  refine RG.op _ _ rfl rfl (o_build (cs := [(.v _), (.v _), (.v _), (.v _)]) Try.underlying53 Ty.inf53 (Ty.pl53 Try.underlying53) rfl) ?_
  refine RG.op _ _ rfl rfl (o_insert (d := (.agg [_, _, _, _])) rfl rfl rfl Try.underlying60 Try.underlying5 rfl rfl rfl rfl) ?_
  refine RG.op _ _ rfl rfl (o_move (.omp _ _) rfl) ?_
  refine RG.op _ _ rfl rfl (o_assign (.omp _ _) rfl) ?_
  refine RG.nil (h2_ _ ?_)
  refine WC.ret ?_
  exact Ends.r1 rfl (.tmp _ (.omp _ _) rfl) (Frz.map aks acs rfl rfl rfl rfl pu_acs) (rfl)
/-- How many values play a part, and what is done. -/
def arN (c : UInt8) : Int := if c = 21 then 0 else if c = 27 ∨ c = 28 then 2 else 1
def fN1 (c : UInt8) : Nat := if c = 21 then 23 else if c = 22 then 26 else if c = 23 ∨ c = 26 then 27 else if c = 24 then 30 else if c = 25 then 33 else if c = 27 then 35 else 37
def fN2 (c : UInt8) : Nat := if c = 24 then 31 else if c = 25 then 34 else if c = 27 then 36 else if c = 28 then 38 else 24
def fN3 (c : UInt8) : Nat := if c = 21 ∨ c = 22 then 25 else if c = 23 then 28 else if c = 26 then 29 else 32
def aggB (c : UInt8) : Bool := decide (c = 21) || (decide (c = 22) || (decide (c = 23) || (decide (c = 26) || (decide (c = 24) || (decide (c = 25) || (decide (c = 27) || decide (c = 28)))))))
theorem aggB_cases {c : UInt8} (h : aggB c = true) : c = 21 ∨ c = 22 ∨ c = 23 ∨ c = 26 ∨ c = 24 ∨ c = 25 ∨ c = 27 ∨ c = 28 := by simpa [aggB] using h
theorem aggB_not {c : UInt8} (h : aggB c = false) : c ≠ 21 ∧ c ≠ 22 ∧ c ≠ 23 ∧ c ≠ 26 ∧ c ≠ 24 ∧ c ≠ 25 ∧ c ≠ 27 ∧ c ≠ 28 := by simpa [aggB] using h
section
variable {C : Ctx} {env : Nat → D} {H : Heap} {dst : Option Nat} {ty : TypeId} {pos : String} {after : Array Edge} {gu : Option (Nat × Bool)} {X Y : Operand}
theorem look_hit {c : UInt8} {ok : Bool} (hc : aggB c = true) (hx : ev env X = .mp aks acs) (hy : ev env Y = B8 c) : OpD Try.prog C ⟨dst, .lookup 60 X Y ok, ty, pos, after, gu⟩ env H (bif ok then .tup [wy (arN c) (fN1 c) (fN2 c) (fN3 c), Bo true] else wy (arN c) (fN1 c) (fN2 c) (fN3 c)) H := by
  rcases aggB_cases hc with rfl | rfl | rfl | rfl | rfl | rfl | rfl | rfl
  · exact o_lookup_hit 0 hx hy Try.underlying60 Try.underlying5 rfl rfl rfl
  · exact o_lookup_hit 1 hx hy Try.underlying60 Try.underlying5 rfl rfl rfl
  · exact o_lookup_hit 2 hx hy Try.underlying60 Try.underlying5 rfl rfl rfl
  · exact o_lookup_hit 3 hx hy Try.underlying60 Try.underlying5 rfl rfl rfl
  · exact o_lookup_hit 4 hx hy Try.underlying60 Try.underlying5 rfl rfl rfl
  · exact o_lookup_hit 5 hx hy Try.underlying60 Try.underlying5 rfl rfl rfl
  · exact o_lookup_hit 6 hx hy Try.underlying60 Try.underlying5 rfl rfl rfl
  · exact o_lookup_hit 7 hx hy Try.underlying60 Try.underlying5 rfl rfl rfl
theorem look_miss {c : UInt8} {ok : Bool} (hc : aggB c = false) (hx : ev env X = .mp aks acs) (hy : ev env Y = B8 c) : OpD Try.prog C ⟨dst, .lookup 60 X Y ok, ty, pos, after, gu⟩ env H (bif ok then .tup [.agg [I64 0, .v .nilFunc, .v .nilFunc, .v .nilFunc], Bo false] else .agg [I64 0, .v .nilFunc, .v .nilFunc, .v .nilFunc]) H := by
  obtain ⟨h1, h2, h3, h4, h5, h6, h7, h8⟩ := aggB_not hc
  have e : ∀ n : UInt8, c ≠ n → ((c.toNat : Int) == n.toNat) = false := fun n hn => beq_false_of_ne fun he => hn (UInt8.toNat_inj.1 (Int.ofNat_inj.1 he))
  refine o_lookup_missA (us := [.int .i64 0, .nilFunc, .nilFunc, .nilFunc]) (et := 53) hx hy Try.underlying60 Try.underlying5 rfl (by kernel_rfl) ?_
  have a1 := e 21 h1
  have a2 := e 22 h2
  have a3 := e 23 h3
  have a4 := e 26 h4
  have a5 := e 24 h5
  have a6 := e 25 h6
  have a7 := e 27 h7
  have a8 := e 28 h8
  simp only [show ((21 : UInt8).toNat : Int) = 21 from rfl, show ((22 : UInt8).toNat : Int) = 22 from rfl, show ((23 : UInt8).toNat : Int) = 23 from rfl, show ((26 : UInt8).toNat : Int) = 26 from rfl, show ((24 : UInt8).toNat : Int) = 24 from rfl, show ((25 : UInt8).toNat : Int) = 25 from rfl, show ((27 : UInt8).toNat : Int) = 27 from rfl, show ((28 : UInt8).toNat : Int) = 28 from rfl] at a1 a2 a3 a4 a5 a6 a7 a8
  simp only [kFind, aks, Instr.sameNow, a1, a2, a3, a4, a5, a6, a7, a8, if_true]
end
end Go.Proofs.Ytpacdeiaimfiaaa
