/-
  A logic of data for the walks: steps of regions that draw; numbers of 8 and 32 bits; the frame of a function. Plain lemmas over any program; no condition.
-/
import Derived.Test.YtpacdeiaimfiaaaDlD
import Derived.Test.YtpacdeiaimfiaaaDlF
set_option linter.unusedSimpArgs false
set_option linter.unusedVariables false
namespace Go.DL
open Go.RowKit

section
variable {P : Program} {C : Ctx} {N : Nat} {ops : Array Oper} {i : Nat} {env : Nat → D} {H H' : Heap} {o : Oper} {d : D}
theorem looks_op {a : Act} {K : Mem} {β : Nat → Nat → BT} (h : ∀ t ∈ o.looksAt ops, DR K β true (a.tmps.getD t undef) (env t) ∧ OkD H (env t)) : (∀ x ∈ o.op.operands, DR K β true (a.eval x) (ev env x)) ∧ (∀ x ∈ o.op.operands, OkD H (ev env x)) := by
  have hm : ∀ t, Operand.tmp t ∈ o.op.operands → t ∈ o.looksAt ops := fun t ht => List.mem_append_left _ (List.mem_filterMap.2 ⟨.tmp t, by simpa using ht, rfl⟩)
  refine ⟨fun x hx => ?_, fun x hx => ?_⟩
  · cases x with
    | tmp t => exact (h t (hm t hx)).1
    | const v => exact .v _ _
    | global g => exact .v _ _
    | func f => exact .v _ _
  · cases x with
    | tmp t => exact (h t (hm t hx)).2
    | const v => exact .v _
    | global g => exact .v _
    | func f => exact .v _
theorem Stp.op (ho : ops[i]? = some o) (hg : o.guard = none) (h : OpD P C o env H d H') : Stp P C N ops i env H d H' := by
  refine ⟨h.len, fun o' ho' K β a w Kc Q hw hN hx hn => ?_⟩
  rw [ho] at ho'; cases ho'
  obtain ⟨h1, h2⟩ := looks_op hx
  unfold wpOpIn
  simp only [ho, Region.wanted, hg, if_true]
  exact (h.go K β a w Kc Q hw h1 h2 hn)
theorem Stp.opg (b : Bool) (j : Nat) (want : Bool) (t : Nat) (ho : ops[i]? = some o) (hg : o.guard = some (j, want)) (ht : (ops[j]?).bind (·.dst) = some t) (hlt : Nat.blt t N = true) (hb : env t = .v (.bool b))
    (h : b = want → OpD P C o env H d H) : Stp P C N ops i env H (gd (b == want) d) H := by
  refine ⟨HLe.refl _, fun o' ho' K β a w Kc Q hw hN hx hn => ?_⟩
  rw [ho] at ho'; cases ho'
  obtain ⟨h1, h2⟩ := looks_op hx
  have htm : t ∈ o.looksAt ops := List.mem_append_right _ (by simp [hg, ht])
  have hy : yielded ops a.tmps j = some b := yielded_of ht (by rw [hN]; simpa [Nat.blt_eq] using hlt) (hb ▸ (hx t htm).1)
  unfold wpOpIn
  simp only [ho]
  have hw' : Region.wanted o (yielded ops a.tmps) = (b == want) := by
    simp only [Region.wanted, hg, hy]
    cases b <;> cases want <;> rfl
  rw [hw']
  cases hbw : (b == want) with
  | true =>
    simp only [if_true]
    rw [hbw] at hn
    exact ((h (by simpa using hbw)).go K β a w Kc Q hw h1 h2 hn)
  | false =>
    simp only [Bool.false_eq_true, if_false]
    rw [hbw] at hn
    exact ⟨fun _ _ => trivial, hn K β undef w (KX.refl _ _) (Agr.refl _ _) hw (.v _ _) (.v _)⟩
variable {Hs : Heap → Prop} {rest : List Oper} {l : List (D × Bool × Heap)} {env' : Nat → D} {H1 : Heap}
theorem Plan.op (ho : ops[i]? = some o) (hg : o.guard = none) (hf : fits N o = true) (h : ∀ H, Hs H → OpD P C o env H d H) (r : Plan P C N ops Hs (i + 1) rest (updO env o.dst d) H l env' H') : Plan P C N ops Hs i (o :: rest) env H ((d, false, H) :: l) env' H' :=
  .pure d hf (fun H hH => .op ho hg (h H hH)) r
theorem Plan.opg (b : Bool) (j : Nat) (want : Bool) (t : Nat) (ho : ops[i]? = some o) (hg : o.guard = some (j, want)) (ht : (ops[j]?).bind (·.dst) = some t) (hlt : Nat.blt t N = true) (hb : env t = .v (.bool b)) (hf : fits N o = true)
    (h : b = want → ∀ H, Hs H → OpD P C o env H d H) (r : Plan P C N ops Hs (i + 1) rest (updO env o.dst (gd (b == want) d)) H l env' H') : Plan P C N ops Hs i (o :: rest) env H ((gd (b == want) d, false, H) :: l) env' H' :=
  .pure _ hf (fun H hH => .opg b j want t ho hg ht hlt hb fun e => h e H hH) r
theorem Plan.opm (ho : ops[i]? = some o) (hg : o.guard = none) (hf : fits N o = true) (h : OpD P C o env H d H1) (r : Plan P C N ops Hs (i + 1) rest (updO env o.dst d) H1 l env' H') : Plan P C N ops Hs i (o :: rest) env H ((d, true, H1) :: l) env' H' :=
  .chg d H1 hf (.op ho hg h) r
end

/-! ### What a function hands back -/
theorem Ends.one {P : Program} {fn : Func} {Q : D → Prop} {s : St} {t : Nat} (hr : fn.results = #[.tmp t]) (d' : D) (hz : Frz s.H (s.env t) d') (hq : Q d') : Ends P fn Q s := by
  intro C N K β a w hs
  exact ⟨a.tmps.getD t undef, s.env t, d', by simp [results, hr], hs.rd t, hz, hq⟩
theorem Ends.two {P : Program} {fn : Func} {Q : D → Prop} {s : St} {t u : Nat} (hr : fn.results = #[.tmp t, .tmp u]) (d1 d2 : D) (h1 : Frz s.H (s.env t) d1) (h2 : Frz s.H (s.env u) d2) (hq : Q (.tup [d1, d2])) : Ends P fn Q s := by
  intro C N K β a w hs
  refine ⟨.tuple #[a.tmps.getD t undef, a.tmps.getD u undef], .tup [s.env t, s.env u], .tup [d1, d2], by simp [results, hr], .tup _ [_, _] _ rfl fun j x d hx hd => ?_, .tup _ _ rfl fun j c d hc hd => ?_, hq⟩
  · rcases j with _ | _ | j
    · simp at hx hd; subst hx hd; rw [← Array.getD_eq_getD_getElem?]; exact hs.rd t
    · simp at hx hd; subst hx hd; rw [← Array.getD_eq_getD_getElem?]; exact hs.rd u
    · simp at hx
  · rcases j with _ | _ | j
    · simp at hc hd; subst hc hd; exact h1
    · simp at hc hd; subst hc hd; exact h2
    · simp at hc
/-- A struct or an array that lies in a block of the call's own. -/
theorem Ends.cell {P : Program} {fn : Func} {Q : D → Prop} {s : St} {t ty id ver off n : Nat} {td : TypeDesc} {b : Blk} (hr : fn.results = #[.cell t ty]) (ht : s.env t = .ptr id ver off) (hu : P.underlying ty = some td) (hf : flat td = false) (hi : (P.info? ty).map (·.size) = some n)
    (hb : s.H[id]? = some (some b)) (hv : b.ver = ver) (hn : off + n ≤ b.cs.length) (d' : D) (hz : Frz s.H (.agg ((b.cs.drop off).take n)) d') (hq : Q d') : Ends P fn Q s := by
  subst hv
  intro C N K β a w hs
  have hp := hs.rd t
  rw [ht] at hp
  obtain ⟨e, hrl⟩ := hp.ptr_inv
  obtain ⟨us, rest, hh, hl, _, _, hd⟩ := hs.ws.real hb hrl
  obtain ⟨i, hi', hi2⟩ := Option.map_eq_some_iff.1 hi
  have hrun : (loadCells ⟨(β id b.ver).blk, off, none⟩ n).run P w = .ok ((us.drop off).take n).toArray w := by
    have := run_loadCells_list (P := P) w ⟨(β id b.ver).blk, off, none⟩ ((us.drop off).take n) fun j v hv => by
      rw [List.getElem?_take] at hv
      split at hv
      · rw [List.getElem?_drop] at hv
        rw [add_lit, cell_at hh, List.getElem?_append_left (List.getElem?_eq_some_iff.1 hv).1]; exact hv
      · cases hv
    rwa [List.length_take, List.length_drop, Nat.min_eq_left (by omega)] at this
  refine ⟨.agg ((us.drop off).take n).toArray, .agg ((b.cs.drop off).take n), d', ?_, .agg _ _ _ (by simp; omega) fun j u d hu hd' => ?_, hz, hq⟩
  · have e' : (a.tmps[t]?).getD undef = .pointer (some ⟨(β id b.ver).blk, off, none⟩) := by rw [← e, Array.getD_eq_getD_getElem?]
    simp [results, hr, e', asAddr, loadVar, run_isAgg_deep hu hf, sizeOf, typeInfo, hi', hi2, hrun]
  · rw [List.getElem?_take] at hu hd'
    split at hu
    · rw [if_pos (by assumption)] at hd'
      rw [List.getElem?_drop] at hu hd'
      exact hd _ u d hu hd'
    · cases hu
theorem Frz.aggv {H : Heap} (xs : List Value) : Frz H (.agg (xs.map .v)) (.agg (xs.map .v)) := by
  refine .agg _ _ rfl fun j c d hc hd => ?_
  rw [hc] at hd; cases hd
  rw [List.getElem?_map] at hc
  cases hx : xs[j]? with
  | none => rw [hx] at hc; cases hc
  | some x => rw [hx] at hc; simp at hc; subst hc; exact .v x

/-! ### Numbers -/
abbrev U32 (x : BitVec 32) : D := .v (.int .u32 (x.toNat : Int))
abbrev U8 (x : BitVec 8) : D := .v (.int .u8 (x.toNat : Int))
abbrev I64 (n : Int) : D := .v (.int .i64 n)
theorem wrap32 (n : Nat) : IntKind.u32.wrap (n : Int) = ((BitVec.ofNat 32 n).toNat : Int) := by rw [IntKind.wrap_u32, BitVec.toNat_ofNat]; omega
theorem ofInt32 (x : BitVec 32) : BitVec.ofInt 32 (x.toNat : Int) = x := by rw [BitVec.ofInt_natCast]; simp
theorem ofInt8 (x : BitVec 8) : BitVec.ofInt 8 (x.toNat : Int) = x := by rw [BitVec.ofInt_natCast]; simp
section
variable {P : Program} {C : Ctx} {env : Nat → D} {H : Heap} {dst : Option Nat} {ty t t' : TypeId} {pos : String} {after : Array Edge} {gu : Option (Nat × Bool)} {X Y : Operand}
theorem eqGuard_int (op : BinOp) (k k' : IntKind) (m n : Int) : eqGuard op t X Y (.int k m) (.int k' n) = .pure () := by cases op <;> rfl
/-- An operation on two integers. -/
theorem o_bin {op : BinOp} {k k' : IntKind} {m n : Int} (r : Value) (hx : ev env X = .v (.int k m)) (hy : ev env Y = .v (.int k' n)) (hr : binOp op t (.int k m) (.int k' n) = .pure r) : OpD P C ⟨dst, .binOp op t X Y t', ty, pos, after, gu⟩ env H (.v r) H := by
  refine OpD.same fun K β a w _ h _ => ⟨r, ?_, .v _ _, .v _⟩
  have h1 := h X (by simp [Op.operands])
  have h2 := h Y (by simp [Op.operands])
  rw [hx] at h1; rw [hy] at h2
  simp [execOp, h1.v_inv, h2.v_inv, eqGuard_int, hr]
theorem v_int {k : IntKind} {m n : Int} (h : m = n) : D.v (.int k m) = .v (.int k n) := by rw [h]
theorem v_bool {m n : Bool} (h : m = n) : D.v (.bool m) = .v (.bool n) := by rw [h]
theorem o_xor32 {x y : BitVec 32} (hx : ev env X = U32 x) (hy : ev env Y = U32 y) : OpD P C ⟨dst, .binOp .xor t X Y t', ty, pos, after, gu⟩ env H (U32 (x ^^^ y)) H :=
  (o_bin (.int .u32 (IntKind.u32.wrap ((BitVec.ofInt 32 (x.toNat : Int) ^^^ BitVec.ofInt 32 (y.toNat : Int)).toNat : Int))) hx hy rfl).cast (v_int (by rw [ofInt32, ofInt32, wrap32, BitVec.ofNat_toNat, BitVec.setWidth_eq]))
theorem shl_run {k : IntKind} {x : Int} {n : Nat} (hn : n ≤ k.bits) : binOp .shl t (.int k x) (.int .u64 (n : Int)) = .pure (.int k (k.wrap (x * 2 ^ n))) := by
  show Op.shift .shl k x .u64 n = _
  unfold Op.shift
  rw [if_neg (by omega)]
  simp only [Int.toNat_natCast, Nat.min_eq_left hn]; rfl
theorem shr_run {k : IntKind} {x : Int} {n : Nat} (hn : n ≤ k.bits) : binOp .shr t (.int k x) (.int .u64 (n : Int)) = .pure (.int k (x.fdiv (2 ^ n))) := by
  show Op.shift .shr k x .u64 n = _
  unfold Op.shift
  rw [if_neg (by omega)]
  simp only [Int.toNat_natCast, Nat.min_eq_left hn]; rfl
theorem fdiv_pow (x n : Nat) : (x : Int).fdiv (2 ^ n) = ((x / 2 ^ n : Nat) : Int) := by
  rw [Int.fdiv_eq_ediv_of_nonneg _ (Int.le_of_lt (Int.pow_pos (by omega)))]; simp
theorem o_shl32 {x : BitVec 32} (n : Nat) (hx : ev env X = U32 x) (hy : ev env Y = .v (.int .u64 (n : Int))) (hn : n ≤ 32) : OpD P C ⟨dst, .binOp .shl t X Y t', ty, pos, after, gu⟩ env H (U32 (x <<< n)) H :=
  (o_bin _ hx hy (shl_run hn)).cast (v_int (by
    rw [show ((x.toNat : Int) * 2 ^ n) = ((x.toNat * 2 ^ n : Nat) : Int) by simp, wrap32]
    simp [BitVec.toNat_shiftLeft, Nat.shiftLeft_eq]))
theorem o_shr32 {x : BitVec 32} (n : Nat) (hx : ev env X = U32 x) (hy : ev env Y = .v (.int .u64 (n : Int))) (hn : n ≤ 32) : OpD P C ⟨dst, .binOp .shr t X Y t', ty, pos, after, gu⟩ env H (U32 (x >>> n)) H :=
  (o_bin _ hx hy (shr_run hn)).cast (v_int (by rw [fdiv_pow, BitVec.toNat_ushiftRight, Nat.shiftRight_eq_div_pow]))
theorem o_mul32 {x y : BitVec 32} (hx : ev env X = U32 x) (hy : ev env Y = U32 y) : OpD P C ⟨dst, .binOp .mul t X Y t', ty, pos, after, gu⟩ env H (U32 (x * y)) H :=
  (o_bin (.int .u32 (IntKind.u32.wrap ((x.toNat : Int) * (y.toNat : Int)))) hx hy rfl).cast (v_int (by
    rw [show ((x.toNat : Int) * (y.toNat : Int)) = ((x.toNat * y.toNat : Nat) : Int) by simp, wrap32]; simp [BitVec.toNat_mul]))
theorem o_not32 {x : BitVec 32} (hx : ev env X = U32 x) : OpD P C ⟨dst, .unOp .xor t X, ty, pos, after, gu⟩ env H (U32 (~~~x)) H := by
  refine OpD.same fun K β a w _ h _ => ⟨.int .u32 (IntKind.u32.wrap ((BitVec.ofInt 32 4294967295 ^^^ BitVec.ofInt 32 (x.toNat : Int)).toNat : Int)), ?_, ?_, .v _⟩
  · have h1 := h X (by simp [Op.operands])
    rw [hx] at h1
    simp only [execOp, h1.v_inv]
    rfl
  · rw [ofInt32, wrap32, BitVec.ofNat_toNat, BitVec.setWidth_eq, show BitVec.ofInt 32 4294967295 = BitVec.allOnes 32 by decide, BitVec.allOnes_xor]; exact .v _ _
theorem o_eq32 {x y : BitVec 32} (hx : ev env X = U32 x) (hy : ev env Y = U32 y) : OpD P C ⟨dst, .binOp .eql t X Y t', ty, pos, after, gu⟩ env H (.v (.bool (x == y))) H :=
  (o_bin (.bool ((x.toNat : Int) == (y.toNat : Int))) hx hy rfl).cast (v_bool (by rw [Bool.eq_iff_iff]; simp [← BitVec.toNat_inj]; omega))
theorem o_ne32 {x y : BitVec 32} (hx : ev env X = U32 x) (hy : ev env Y = U32 y) : OpD P C ⟨dst, .binOp .neq t X Y t', ty, pos, after, gu⟩ env H (.v (.bool (x != y))) H :=
  (o_bin (.bool ((x.toNat : Int) != (y.toNat : Int))) hx hy rfl).cast (v_bool (by rw [Bool.eq_iff_iff]; simp [← BitVec.toNat_inj]; omega))
theorem o_shr8 {x : BitVec 8} (n : Nat) (hx : ev env X = U8 x) (hy : ev env Y = .v (.int .u64 (n : Int))) (hn : n ≤ 8) : OpD P C ⟨dst, .binOp .shr t X Y t', ty, pos, after, gu⟩ env H (U8 (x >>> n)) H :=
  (o_bin _ hx hy (shr_run hn)).cast (v_int (by rw [fdiv_pow, BitVec.toNat_ushiftRight, Nat.shiftRight_eq_div_pow]))
theorem o_and8 {x y : BitVec 8} (hx : ev env X = U8 x) (hy : ev env Y = U8 y) : OpD P C ⟨dst, .binOp .and t X Y t', ty, pos, after, gu⟩ env H (U8 (x &&& y)) H :=
  (o_bin (.int .u8 (IntKind.u8.wrap ((BitVec.ofInt 8 (x.toNat : Int) &&& BitVec.ofInt 8 (y.toNat : Int)).toNat : Int))) hx hy rfl).cast (v_int (by rw [ofInt8, ofInt8, IntKind.wrap_u8]; omega))
theorem o_8to32 {x : BitVec 8} {ds : TypeDesc} (hx : ev env X = U8 x) (hs : P.underlying t = some ds) (hd : P.underlying t' = some (.int .u32)) : OpD P C ⟨dst, .convert t t' X, ty, pos, after, gu⟩ env H (U32 (x.setWidth 32)) H :=
  (o_int hx hs hd).cast (by rw [wrap32]; simp)
end
end Go.DL
