/-
  What the laws stand on, part 2 of 4: plain lemmas; no condition.
-/
import Derived.Test.YtpdjcfhmdeeikaaPla
set_option linter.unusedSimpArgs false
set_option linter.unusedVariables false
set_option linter.unusedSectionVars false
namespace Go.DL
open Go.RowKit

section
variable {P : Program} {C : Ctx} {env : Nat → D} {H H' : Heap} {dst : Option Nat} {ty t t' e : TypeId} {pos : String} {after : Array Edge} {gu : Option (Nat × Bool)} {X Y Z : Operand} {td : TypeDesc}

/-! ### Places in rows, by number -/
theorem o_ixn_M {α : Type} {l : List α} {g : α → D} {k : IntKind} {i : Int} (n : Nat) (hx : ev env X = .rd l.length (l.map g)) (hy : ev env Y = .v (.int k i)) (ht : P.underlying t = some (.slice e)) (hi : (P.info? e).map (·.size) = some 1) (hn : i = n) (h : n < l.length) :
    OpD P C ⟨dst, .indexAddr t X Y, ty, pos, after, gu⟩ env H (.adr (g l[n] :: (l.drop (n + 1)).map g)) H := by
  subst hn
  refine (o_ix_rd hx hy ht hi (by omega) (by omega) (by simp; omega)).cast ?_
  rw [Int.toNat_natCast, Nat.mul_one, ← List.map_drop, List.drop_eq_getElem_cons h, List.map_cons]
theorem flatMap_drop {α : Type} {f : α → List D} {sz : Nat} (hf : ∀ a, (f a).length = sz) : ∀ (l : List α) (n : Nat), (l.flatMap f).drop (n * sz) = (l.drop n).flatMap f
  | [], n => by simp
  | a :: l, 0 => by simp
  | a :: l, n + 1 => by
    rw [List.flatMap_cons, Nat.succ_mul, Nat.add_comm, ← List.drop_drop, List.drop_left' (hf a), List.drop_succ_cons, flatMap_drop hf l n]
theorem flatMap_len {α : Type} {f : α → List D} {sz : Nat} (hf : ∀ a, (f a).length = sz) : ∀ (l : List α), (l.flatMap f).length = l.length * sz
  | [] => by simp
  | a :: l => by rw [List.flatMap_cons, List.length_append, hf, flatMap_len hf l, List.length_cons, Nat.succ_mul, Nat.add_comm]
theorem flatMap_at {α : Type} {f : α → List D} {sz : Nat} (hf : ∀ a, (f a).length = sz) {l : List α} {n : Nat} (h : n < l.length) : (l.flatMap f).drop (n * sz) = f l[n] ++ (l.drop (n + 1)).flatMap f := by
  rw [flatMap_drop hf, List.drop_eq_getElem_cons h, List.flatMap_cons]
theorem o_ixn_L {α : Type} {l : List α} {f : α → List D} {sz : Nat} {k : IntKind} {i : Int} (n : Nat) (hf : ∀ a, (f a).length = sz) (hp : Nat.blt 0 sz = true) (hx : ev env X = .rd l.length (l.flatMap f)) (hy : ev env Y = .v (.int k i)) (ht : P.underlying t = some (.slice e)) (hi : (P.info? e).map (·.size) = some sz) (hn : i = n) (h : n < l.length) :
    OpD P C ⟨dst, .indexAddr t X Y, ty, pos, after, gu⟩ env H (.adr (f l[n] ++ (l.drop (n + 1)).flatMap f)) H := by
  subst hn
  have hp : 0 < sz := by simpa [Nat.blt_eq] using hp
  have hlt : n * sz < (l.flatMap f).length := by rw [flatMap_len hf]; exact Nat.mul_lt_mul_of_pos_right h hp
  refine (o_ix_rd hx hy ht hi (by omega) (by omega) (by rw [Int.toNat_natCast]; exact hlt)).cast ?_
  rw [Int.toNat_natCast, flatMap_at hf h]
theorem o_ixn_own {id ver off n sz sz' : Nat} {k : IntKind} {i : Int} (j : Nat) (hx : ev env X = .own id ver off n sz') (hy : ev env Y = .v (.int k i)) (ht : P.underlying t = some (.slice e)) (hi : (P.info? e).map (·.size) = some sz) (hn : i = j) (h : j < n) :
    OpD P C ⟨dst, .indexAddr t X Y, ty, pos, after, gu⟩ env H (.ptr id ver (off + j * sz)) H := by
  subst hn
  exact (o_ix_own hx hy ht hi (by omega) (by omega)).cast (by rw [Int.toNat_natCast])
/-- A struct or an array of a row that stays. -/
theorem o_load_adr_L {xs tl : List D} {n : Nat} (hx : ev env X = .adr (xs ++ tl)) (ht : P.underlying t = some td) (hf : flat td = false) (hi : (P.info? t).map (·.size) = some n) (hn : xs.length = n) : OpD P C ⟨dst, .load t X, ty, pos, after, gu⟩ env H (.agg xs) H :=
  (o_load_adr_agg hx ht hf hi (by simp; omega)).cast (by rw [List.take_left' hn])
theorem o_load_ptr_L {id ver off n : Nat} {b : Blk} {xs : List D} (hx : ev env X = .ptr id ver off) (ht : P.underlying t = some td) (hf : flat td = false) (hi : (P.info? t).map (·.size) = some n) (hb : H[id]? = some (some b)) (hv : b.ver = ver) (hn : Nat.ble (off + n) b.cs.length = true) (hxs : (b.cs.drop off).take n = xs) : OpD P C ⟨dst, .load t X, ty, pos, after, gu⟩ env H (.agg xs) H :=
  (o_load_ptr_agg hx ht hf hi hb hv (Nat.le_of_ble_eq_true hn)).cast (by rw [hxs])

/-! ### Copies -/
theorem set_same {H : Heap} {id : Nat} {b : Option Blk} (hb : H[id]? = some b) : H.set id b = H := by
  apply List.ext_getElem?
  intro j
  rw [List.getElem?_set]
  by_cases h : id = j
  · subst h; rw [if_pos rfl, if_pos (List.getElem?_eq_some_iff.1 hb).1, hb]
  · rw [if_neg h]
theorem copy_nothing {w : World} {sT : TypeId} {A A' : Option Addr} {n c m c' sz : Nat} (ht : P.underlying t = some (.slice e)) (hi : (P.info? e).map (·.size) = some sz) (h0 : min m n = 0) : (Builtin.copy_ #[t, sT] ty #[.slice A n c, .slice A' m c']).run P w = .ok (goInt 0) w := by
  obtain ⟨i, hi1, hi2⟩ := Option.map_eq_some_iff.1 hi
  have h0' : Nat.min m n = 0 := h0
  cases A <;> cases A' <;> simp [Builtin.copy_, run_underlying ht, Builtin.lenOf, Builtin.firstCells, sizeOf, typeInfo, hi1, h0', loadCells, loadCellsFrom, storeCells]
theorem o_copy {id ver off n m : Nat} {cs' : List D} {b : Blk} (k : Nat) (hx : ev env X = .own id ver off n 1) (hy : ev env Y = .rd m cs') (ht : P.underlying t = some (.slice e)) (hi : (P.info? e).map (·.size) = some 1) (hb : H[id]? = some (some b)) (hv : b.ver = ver) (hm : cs'.length = m) (hk : min m n = k) (hn : off + n ≤ b.cs.length) (h1 : ∀ d ∈ cs', oneD d = true) :
    OpD P C ⟨dst, .call { callee := .builtin .copy, args := #[X, Y], argTypes := #[t, t'] }, ty, pos, after, gu⟩ env H (I64 k) (H.set id (some { b with cs := spl b.cs off (cs'.take k) })) := by
  subst hv hm
  refine OpD.of (HLe.set hb (Nat.le_refl _)) fun K β ac w hw h hk' => ?_
  have hxv := h X (by simp [Op.operands, Call.operands])
  have hyv := h Y (by simp [Op.operands, Call.operands])
  rw [hx] at hxv; rw [hy] at hyv
  obtain ⟨A, c, us, e1, hmc, hlen, hc, hd⟩ := hyv.rd_inv
  obtain ⟨A', c', e2, hc'⟩ := hxv.own_len
  rcases Nat.eq_zero_or_pos k with h0 | h0
  · subst h0
    have hrun := copy_nothing (P := P) (ty := ty) (w := w) (sT := t') (A := A') (c := c') (A' := A) (c' := c) ht hi hk
    have hs : spl b.cs off (cs'.take 0) = b.cs := by unfold spl; simp
    rw [hs, set_same hb]
    refine ⟨K, β, _, w, ?_, KX.refl _ _, Agr.refl _ _, hw, .v _ _, .v _⟩
    simp only [execOp, resolve, List.map_toArray, List.map_cons, List.map_nil, e1, e2, invoke, builtin, Sem.run_bind, Sem.run_pure, Result.andThen_ok, hrun]; rfl
  · have hA : ∃ ad, A = some ad := by
      have : 0 < us.length := by omega
      obtain ⟨ad, h, _⟩ := hc 0 us[0] (List.getElem?_eq_getElem this)
      exact ⟨ad, h⟩
    obtain ⟨ad, rfl⟩ := hA
    rcases hxv.own_inv with ⟨c2, e3, hnc, _, _, hr⟩ | ⟨e3, _, hn0, _⟩
    · rw [e2] at e3
      cases e3
      obtain ⟨vs, rest, hh, hl, htot, hg, hdd⟩ := hw.real hb hr
      have hkl : (us.take k).length = k := by rw [List.length_take]; omega
      have hone : ∀ v ∈ us.take k, v.oneCell' = true := fun u hu => by
        obtain ⟨j, hj⟩ := List.getElem?_of_mem (List.mem_of_mem_take hu)
        have hlt : j < cs'.length := by rw [← hlen]; exact (List.getElem?_eq_some_iff.1 hj).1
        exact oneD.val (hd j u _ hj (List.getElem?_eq_getElem hlt)) (h1 _ (List.getElem_mem hlt))
      have hrun := run_copy_row (P := P) w t t' ty e (β id b.ver).blk off n c' ad cs'.length c (vs ++ rest).toArray b.e (us.take k) ht hi hh (by rw [hkl]; exact hk.symm) (fun j v hj => by
        have hj' : us[j]? = some v := by
          rw [List.getElem?_take] at hj
          split at hj
          · exact hj
          · cases hj
        obtain ⟨ad', ha, hcell⟩ := hc j v hj'
        cases ha; exact hw.cell hcell) (by rw [hkl]; simp; omega) hone
      have hput := hw.put hb hr (spl b.cs off (cs'.take k)) (spl vs off (us.take k)) rest
        (by rw [spl_length (by rw [hkl]; omega), spl_length (by rw [List.length_take]; omega), hl]) (by rw [spl_length (by rw [hkl]; omega)]; exact htot) hg
        (fun j u d hu hd' => by
          rw [spl_get (by rw [hkl]; omega)] at hu
          rw [spl_get (by rw [List.length_take]; omega)] at hd'
          have hckl : (cs'.take k).length = k := by rw [List.length_take]; omega
          rw [hkl] at hu; rw [hckl] at hd'
          by_cases hj1 : j < off
          · rw [if_pos hj1] at hu hd'; exact hdd j u d hu hd'
          · rw [if_neg hj1] at hu hd'
            by_cases hj2 : j < off + k
            · rw [if_pos hj2] at hu hd'
              have hj3 : j - off < k := by omega
              rw [List.getElem?_take, if_pos hj3] at hu hd'
              exact ((hd _ u d hu hd').mono (H := []) (Mem.le.refl K) (by intro h; cases h) (Agr.refl _ _)).up rfl
            · rw [if_neg hj2] at hu hd'; exact hdd j u d hu hd')
        (fun d hd' => by
          unfold spl at hd'
          rcases List.mem_append.1 hd' with h | h
          · rcases List.mem_append.1 h with h | h
            · exact hw.ok id b hb d (List.mem_of_mem_take h)
            · obtain ⟨j, hj⟩ := List.getElem?_of_mem (List.mem_of_mem_take h)
              have hlt : j < us.length := by rw [hlen]; exact (List.getElem?_eq_some_iff.1 hj).1
              exact (hd j _ d (List.getElem?_eq_getElem hlt) hj).okp rfl
          · exact hw.ok id b hb d (List.mem_of_mem_drop h))
      have hrow : (List.take off (vs ++ rest).toArray.toList ++ List.take k us ++ List.drop (off + (List.take k us).length) (vs ++ rest).toArray.toList).toArray = (spl vs off (us.take k) ++ rest).toArray := by
        congr 1
        unfold spl
        rw [List.take_append_of_le_length (by omega), List.drop_append_of_le_length (by rw [hkl]; omega)]
        simp
      rw [hrow, hkl] at hrun
      refine ⟨K, β, _, _, ?_, KX.refl _ _, Agr.refl _ _, hput, .v _ _, .v _⟩
      simp only [execOp, resolve, List.map_toArray, List.map_cons, List.map_nil, e1, e2, invoke, builtin, Sem.run_bind, Sem.run_pure, Result.andThen_ok, hrun]; rfl
    · omega

/-! ### Strings -/
abbrev S (l : List UInt8) : D := .v (.string (strB l))
theorem strB_size (l : List UInt8) : (strB l).size = l.length := by simp [ByteArray.size]
theorem strB_list (l : List UInt8) : (strB l).toList = l := ByteArray.toList_mk l
theorem o_lenS {l : List UInt8} (hx : ev env X = S l) (ht : P.underlying t = some .string) : OpD P C ⟨dst, .call { callee := .builtin .len, args := #[X], argTypes := #[t] }, ty, pos, after, gu⟩ env H (I64 l.length) H := o_len_s hx ht
theorem o_ixS {l : List UInt8} {k : IntKind} {i : Int} (n : Nat) (hx : ev env X = S l) (hy : ev env Y = .v (.int k i)) (ht : P.underlying t = some .string) (hn : i = n) (h : n < l.length) : OpD P C ⟨dst, .index t X Y, ty, pos, after, gu⟩ env H (U8 l[n].toBitVec) H := by
  subst hn
  refine OpD.same fun K β a w _ h' _ => ?_
  have h1 := h' X (by simp [Op.operands])
  have h2 := h' Y (by simp [Op.operands])
  rw [hx] at h1; rw [hy] at h2
  refine ⟨.int .u8 (l[n].toNat : Int), ?_, .v _ _, .v _⟩
  have hlt : n < (strB l).size := by rw [strB_size]; exact h
  have hg : (strB l)[n]? = some l[n] := by
    rw [ByteArray.getElem?_lt' _ _ hlt]; rfl
  simp [execOp, h1.v_inv, h2.v_inv, Instr.index, asIntOf, run_underlying ht, hg]
theorem o_str2 {op : BinOp} {l m : List UInt8} (r : Value) (hx : ev env X = S l) (hy : ev env Y = S m) (hr : ∀ w, (Op.stringOp op (strB l) (strB m)).run P w = .ok r w) : OpD P C ⟨dst, .binOp op t X Y t', ty, pos, after, gu⟩ env H (.v r) H := by
  refine OpD.same fun K β a w _ h _ => ⟨r, ?_, .v _ _, .v _⟩
  have h1 := h X (by simp [Op.operands])
  have h2 := h Y (by simp [Op.operands])
  rw [hx] at h1; rw [hy] at h2
  have hg : eqGuard op t X Y (.string (strB l)) (.string (strB m)) = .pure () := by cases op <;> rfl
  have hb : binOp op t (.string (strB l)) (.string (strB m)) = Op.stringOp op (strB l) (strB m) := by cases op <;> simp [binOp]
  simp [execOp, h1.v_inv, h2.v_inv, hg, hb, hr]
/-- Is a string ahead of another one? -/
abbrev bless (l m : List UInt8) : Bool := Op.bytesLess l m
theorem o_eqS' {l m : List UInt8} (hx : ev env X = S l) (hy : ev env Y = S m) : OpD P C ⟨dst, .binOp .eql t X Y t', ty, pos, after, gu⟩ env H (.v (.bool (l == m))) H := o_str2 _ hx hy fun w => by simp only [Op.stringOp, strB_list]; rfl
theorem o_neS' {l m : List UInt8} (hx : ev env X = S l) (hy : ev env Y = S m) : OpD P C ⟨dst, .binOp .neq t X Y t', ty, pos, after, gu⟩ env H (.v (.bool !(l == m))) H := o_str2 _ hx hy fun w => by simp only [Op.stringOp, strB_list]; rfl
theorem o_ltS {l m : List UInt8} (hx : ev env X = S l) (hy : ev env Y = S m) : OpD P C ⟨dst, .binOp .lss t X Y t', ty, pos, after, gu⟩ env H (.v (.bool (bless l m))) H := o_str2 _ hx hy fun w => by simp only [Op.stringOp, strB_list]; rfl
end
end Go.DL
namespace Go.DL
open Go.RowKit

abbrev N64 (n : Nat) : D := .v (.int .u64 (n : Int))
abbrev B8 (b : UInt8) : D := .v (.int .u8 (b.toNat : Int))
section
variable {P : Program} {C : Ctx} {env : Nat → D} {H H' : Heap} {dst : Option Nat} {ty t t' e : TypeId} {pos : String} {after : Array Edge} {gu : Option (Nat × Bool)} {X Y Z : Operand} {td : TypeDesc}

/-! ### 64 bits -/
theorem wrapU64 (n : Nat) : IntKind.u64.wrap (n : Int) = ((n % 18446744073709551616 : Nat) : Int) := by rw [IntKind.wrap_u64]; omega
theorem o_addU {a b : Nat} (hx : ev env X = N64 a) (hy : ev env Y = N64 b) : OpD P C ⟨dst, .binOp .add t X Y t', ty, pos, after, gu⟩ env H (N64 ((a + b) % 18446744073709551616)) H :=
  (o_bin (.int .u64 (IntKind.u64.wrap ((a : Int) + (b : Int)))) hx hy rfl).cast (v_int (by rw [IntKind.wrap_u64]; omega))
theorem o_subU {a b : Nat} (hx : ev env X = N64 a) (hy : ev env Y = N64 b) (hb : b ≤ 18446744073709551615) : OpD P C ⟨dst, .binOp .sub t X Y t', ty, pos, after, gu⟩ env H (N64 ((a + (18446744073709551616 - b)) % 18446744073709551616)) H :=
  (o_bin (.int .u64 (IntKind.u64.wrap ((a : Int) - (b : Int)))) hx hy rfl).cast (v_int (by rw [IntKind.wrap_u64]; omega))
theorem o_mulU {a b : Nat} (hx : ev env X = N64 a) (hy : ev env Y = N64 b) : OpD P C ⟨dst, .binOp .mul t X Y t', ty, pos, after, gu⟩ env H (N64 ((a * b) % 18446744073709551616)) H :=
  (o_bin (.int .u64 (IntKind.u64.wrap ((a : Int) * (b : Int)))) hx hy rfl).cast (v_int (by rw [← Int.natCast_mul, wrapU64]))
theorem ofInt64 (n : Nat) (h : n ≤ 18446744073709551615) : (BitVec.ofInt 64 (n : Int)).toNat = n := by rw [BitVec.ofInt_natCast, BitVec.toNat_ofNat, Nat.mod_eq_of_lt (by omega)]
theorem bitsU {op : BitVec 64 → BitVec 64 → BitVec 64} {f : Nat → Nat → Nat} (hf : ∀ x y : BitVec 64, (op x y).toNat = f x.toNat y.toNat) (hl : ∀ a b : Nat, a < 2 ^ 64 → b < 2 ^ 64 → f a b < 2 ^ 64) {a b : Nat} (ha : a ≤ 18446744073709551615) (hb : b ≤ 18446744073709551615) :
    IntKind.u64.wrap ((op (BitVec.ofInt 64 (a : Int)) (BitVec.ofInt 64 (b : Int))).toNat : Int) = ((f a b : Nat) : Int) := by
  rw [hf, ofInt64 a ha, ofInt64 b hb, wrapU64, Nat.mod_eq_of_lt (hl a b (by omega) (by omega))]
theorem o_xorU {a b : Nat} (hx : ev env X = N64 a) (hy : ev env Y = N64 b) (ha : a ≤ 18446744073709551615) (hb : b ≤ 18446744073709551615) : OpD P C ⟨dst, .binOp .xor t X Y t', ty, pos, after, gu⟩ env H (N64 (a ^^^ b)) H :=
  (o_bin (.int .u64 (IntKind.u64.wrap ((BitVec.ofInt 64 (a : Int) ^^^ BitVec.ofInt 64 (b : Int)).toNat : Int))) hx hy rfl).cast (v_int (bitsU (fun _ _ => BitVec.toNat_xor _ _) (fun _ _ h1 h2 => Nat.xor_lt_two_pow h1 h2) ha hb))
theorem o_orU {a b : Nat} (hx : ev env X = N64 a) (hy : ev env Y = N64 b) (ha : a ≤ 18446744073709551615) (hb : b ≤ 18446744073709551615) : OpD P C ⟨dst, .binOp .or t X Y t', ty, pos, after, gu⟩ env H (N64 (a ||| b)) H :=
  (o_bin (.int .u64 (IntKind.u64.wrap ((BitVec.ofInt 64 (a : Int) ||| BitVec.ofInt 64 (b : Int)).toNat : Int))) hx hy rfl).cast (v_int (bitsU (fun _ _ => BitVec.toNat_or _ _) (fun _ _ h1 h2 => Nat.or_lt_two_pow h1 h2) ha hb))
theorem o_andU {a b : Nat} (hx : ev env X = N64 a) (hy : ev env Y = N64 b) (ha : a ≤ 18446744073709551615) (hb : b ≤ 18446744073709551615) : OpD P C ⟨dst, .binOp .and t X Y t', ty, pos, after, gu⟩ env H (N64 (a &&& b)) H :=
  (o_bin (.int .u64 (IntKind.u64.wrap ((BitVec.ofInt 64 (a : Int) &&& BitVec.ofInt 64 (b : Int)).toNat : Int))) hx hy rfl).cast (v_int (bitsU (fun _ _ => BitVec.toNat_and _ _) (fun _ _ _ h2 => Nat.and_lt_two_pow _ h2) ha hb))
theorem o_shlU {a n : Nat} (hx : ev env X = N64 a) (hy : ev env Y = N64 n) (hn : n ≤ 64) : OpD P C ⟨dst, .binOp .shl t X Y t', ty, pos, after, gu⟩ env H (N64 ((a * 2 ^ n) % 18446744073709551616)) H :=
  (o_bin _ hx hy (shl_run hn)).cast (v_int (by rw [show ((a : Int) * 2 ^ n) = ((a * 2 ^ n : Nat) : Int) by simp, wrapU64]))
theorem o_shrU {k : IntKind} {a n : Nat} (hx : ev env X = .v (.int k (a : Int))) (hy : ev env Y = N64 n) (hn : n ≤ k.bits) : OpD P C ⟨dst, .binOp .shr t X Y t', ty, pos, after, gu⟩ env H (.v (.int k ((a / 2 ^ n : Nat) : Int))) H :=
  (o_bin _ hx hy (shr_run hn)).cast (v_int (by rw [fdiv_pow]))
theorem o_i64toU {n : Int} (hx : ev env X = I64 n) {ds : TypeDesc} (hs : P.underlying t = some ds) (hd : P.underlying t' = some (.int .u64)) : OpD P C ⟨dst, .convert t t' X, ty, pos, after, gu⟩ env H (N64 (n % 18446744073709551616).toNat) H :=
  (o_int hx hs hd).cast (v_int (by rw [IntKind.wrap_u64]; omega))
/-- A number of 64 bits read with its sign. -/
def sgn (n : Nat) : Int := if n < 9223372036854775808 then (n : Int) else (n : Int) - 18446744073709551616
theorem o_UtoI64 {n : Nat} (hx : ev env X = N64 n) (hn : n ≤ 18446744073709551615) {ds : TypeDesc} (hs : P.underlying t = some ds) (hd : P.underlying t' = some (.int .i64)) : OpD P C ⟨dst, .convert t t' X, ty, pos, after, gu⟩ env H (I64 (sgn n)) H :=
  (o_int hx hs hd).cast (v_int (by rw [IntKind.wrap_i64]; unfold sgn; split <;> omega))
theorem o_UtoB {n : Nat} (hx : ev env X = N64 n) {ds : TypeDesc} (hs : P.underlying t = some ds) (hd : P.underlying t' = some (.int .u8)) : OpD P C ⟨dst, .convert t t' X, ty, pos, after, gu⟩ env H (B8 (UInt8.ofNat n)) H :=
  (o_int hx hs hd).cast (v_int (by rw [IntKind.wrap_u8, UInt8.toNat_ofNat']; omega))
theorem o_ItoB {n : Int} (hx : ev env X = I64 n) {ds : TypeDesc} (hs : P.underlying t = some ds) (hd : P.underlying t' = some (.int .u8)) : OpD P C ⟨dst, .convert t t' X, ty, pos, after, gu⟩ env H (B8 (UInt8.ofNat (n % 256).toNat)) H :=
  (o_int hx hs hd).cast (v_int (by rw [IntKind.wrap_u8, UInt8.toNat_ofNat']; omega))
theorem o_BtoU {b : UInt8} (hx : ev env X = B8 b) {ds : TypeDesc} (hs : P.underlying t = some ds) (hd : P.underlying t' = some (.int .u64)) : OpD P C ⟨dst, .convert t t' X, ty, pos, after, gu⟩ env H (N64 b.toNat) H :=
  (o_int hx hs hd).cast (v_int (by have := b.toNat_lt; rw [wrapU64, Nat.mod_eq_of_lt (by omega)]))
/-! ### Bytes -/
theorem o_eqB {a b : UInt8} (hx : ev env X = B8 a) (hy : ev env Y = B8 b) : OpD P C ⟨dst, .binOp .eql t X Y t', ty, pos, after, gu⟩ env H (.v (.bool (a == b))) H :=
  (o_bin (.bool ((a.toNat : Int) == (b.toNat : Int))) hx hy rfl).cast (v_bool (by rw [Bool.eq_iff_iff]; simp [← UInt8.toNat_inj]; omega))
theorem o_neB {a b : UInt8} (hx : ev env X = B8 a) (hy : ev env Y = B8 b) : OpD P C ⟨dst, .binOp .neq t X Y t', ty, pos, after, gu⟩ env H (.v (.bool (a != b))) H :=
  (o_bin (.bool ((a.toNat : Int) != (b.toNat : Int))) hx hy rfl).cast (v_bool (by rw [Bool.eq_iff_iff]; simp [← UInt8.toNat_inj]; omega))
theorem o_ltB {a b : UInt8} (hx : ev env X = B8 a) (hy : ev env Y = B8 b) : OpD P C ⟨dst, .binOp .lss t X Y t', ty, pos, after, gu⟩ env H (.v (.bool (decide (a.toNat < b.toNat)))) H :=
  (o_bin (.bool (decide ((a.toNat : Int) < (b.toNat : Int)))) hx hy rfl).cast (v_bool (by rw [Bool.eq_iff_iff]; simp))
theorem o_gtB {a b : UInt8} (hx : ev env X = B8 a) (hy : ev env Y = B8 b) : OpD P C ⟨dst, .binOp .gtr t X Y t', ty, pos, after, gu⟩ env H (.v (.bool (decide (b.toNat < a.toNat)))) H :=
  (o_bin (.bool (decide ((a.toNat : Int) > (b.toNat : Int)))) hx hy rfl).cast (v_bool (by rw [Bool.eq_iff_iff]; simp))
theorem o_geB {a b : UInt8} (hx : ev env X = B8 a) (hy : ev env Y = B8 b) : OpD P C ⟨dst, .binOp .geq t X Y t', ty, pos, after, gu⟩ env H (.v (.bool (decide (b.toNat ≤ a.toNat)))) H :=
  (o_bin (.bool (decide ((a.toNat : Int) ≥ (b.toNat : Int)))) hx hy rfl).cast (v_bool (by rw [Bool.eq_iff_iff]; simp))
/-! ### Numbers with a sign: what comparisons tell -/
theorem o_eqI {k : IntKind} {a b : Int} (hx : ev env X = .v (.int k a)) (hy : ev env Y = .v (.int k b)) : OpD P C ⟨dst, .binOp .eql t X Y t', ty, pos, after, gu⟩ env H (.v (.bool (decide (a = b)))) H :=
  (o_bin (.bool (a == b)) hx hy (by cases k <;> rfl)).cast (v_bool (by rw [Bool.eq_iff_iff]; simp))
theorem o_neI {k : IntKind} {a b : Int} (hx : ev env X = .v (.int k a)) (hy : ev env Y = .v (.int k b)) : OpD P C ⟨dst, .binOp .neq t X Y t', ty, pos, after, gu⟩ env H (.v (.bool (decide (a ≠ b)))) H :=
  (o_bin (.bool (a != b)) hx hy (by cases k <;> rfl)).cast (v_bool (by rw [Bool.eq_iff_iff]; simp))
theorem o_ltI {k : IntKind} {a b : Int} (hx : ev env X = .v (.int k a)) (hy : ev env Y = .v (.int k b)) : OpD P C ⟨dst, .binOp .lss t X Y t', ty, pos, after, gu⟩ env H (.v (.bool (decide (a < b)))) H := o_bin _ hx hy (by cases k <;> rfl)
theorem o_gtI {k : IntKind} {a b : Int} (hx : ev env X = .v (.int k a)) (hy : ev env Y = .v (.int k b)) : OpD P C ⟨dst, .binOp .gtr t X Y t', ty, pos, after, gu⟩ env H (.v (.bool (decide (a > b)))) H := o_bin _ hx hy (by cases k <;> rfl)
theorem o_geI {k : IntKind} {a b : Int} (hx : ev env X = .v (.int k a)) (hy : ev env Y = .v (.int k b)) : OpD P C ⟨dst, .binOp .geq t X Y t', ty, pos, after, gu⟩ env H (.v (.bool (decide (a ≥ b)))) H := o_bin _ hx hy (by cases k <;> rfl)

/-! ### Tables -/
/-- Which key of a table is this one. -/
def kFind (kd : TypeDesc) (k : Value) : List Value → Nat → Option (Option Nat)
  | [], _ => some none
  | x :: ks, i => match Instr.sameNow kd k x with
    | some true => some (some i)
    | some false => kFind kd k ks (i + 1)
    | none => none
theorem findNow_of {kd : TypeDesc} {k : Value} : ∀ {es : List MapEntry} {i : Nat} {r : Option Nat}, kFind kd k (es.map (·.key)) i = some r →
    Instr.findNow kd k es i = some (r.bind fun j => (es[j - i]?).map fun e => (j, e.val)) ∧ ∀ j, r = some j → i ≤ j ∧ j - i < es.length
  | [], i, r, h => by simp [kFind] at h; subst h; exact ⟨rfl, by simp⟩
  | e :: es, i, r, h => by
    rw [List.map_cons, kFind] at h
    rw [Instr.findNow]
    cases hs : Instr.sameNow kd k e.key with
    | none => rw [hs] at h; cases h
    | some b =>
      rw [hs] at h
      cases b with
      | true => simp at h; subst h; refine ⟨by simp, fun j hj => ?_⟩; cases hj; simp
      | false =>
        simp only at h ⊢
        obtain ⟨h1, h2⟩ := findNow_of h
        cases r with
        | none => exact ⟨by rw [h1]; rfl, by simp⟩
        | some j =>
          obtain ⟨h3, h4⟩ := h2 j rfl
          refine ⟨?_, fun j' hj => ?_⟩
          · rw [h1]
            simp only [Option.bind_some]
            rw [show j - i = (j - (i + 1)) + 1 by omega, List.getElem?_cons_succ]
          · cases hj; simp; omega
/-- A key whose type is looked at in one step. -/
def flatKey : TypeDesc → Bool
  | .int _ | .string | .bool => true
  | _ => false
theorem run_getMap {w : World} {r : Nat} {es : Array MapEntry} {ck : Nat} (h : w.heap[r]? = some (.map es ck)) : (getObj r).run P w = .ok (.map es ck) w := by simp [getObj, Sem.run, h]
theorem run_checkKey' {w : World} {em : Bool} {kt : TypeId} {kd : TypeDesc} {v : Value} (hk : P.underlying kt = some kd) (hf : flatKey kd = true) : (Instr.checkKey em 10000 kt v).run P w = .ok () w := by
  cases kd <;> first
    | (simp [flatKey] at hf; done)
    | (rw [show (10000 : Nat) = 9999 + 1 from rfl, Instr.checkKey]; simp [run_underlying hk])
theorem o_lookup_hit {ks : List Value} {cs : List D} {kt et : TypeId} {kd : TypeDesc} {k : Value} {d : D} {ok : Bool} (j : Nat) (hx : ev env X = .mp ks cs) (hy : ev env Y = .v k) (ht : P.underlying t = some (.map kt et)) (hk : P.underlying kt = some kd) (hf : flatKey kd = true) (hj : kFind kd k ks 0 = some (some j)) (hd : cs[j]? = some d) :
    OpD P C ⟨dst, .lookup t X Y ok, ty, pos, after, gu⟩ env H (bif ok then .tup [d, .v (.bool true)] else d) H := by
  refine OpD.same fun K β a w hw h _ => ?_
  have h1 := h X (by simp [Op.operands])
  have h2 := h Y (by simp [Op.operands])
  rw [hx] at h1; rw [hy] at h2
  obtain ⟨r, es, ck, e1, hK, hks, hlen, hds⟩ := h1.mp_inv
  have hheap := hw.holds _ _ hK
  subst hks
  obtain ⟨f1, f2⟩ := findNow_of hj
  obtain ⟨_, f3⟩ := f2 j rfl
  rw [Nat.sub_zero] at f3
  have hu : es[j]? = some es[j] := Array.getElem?_eq_getElem (by simpa using f3)
  have hdv := hds j _ d hu hd
  have hfind : (Instr.findKey kt k es.toList).run P w = .ok (some (j, es[j].val)) w := by
    have hl : es.toList[j]? = some es[j] := by rw [Array.getElem?_toList]; exact hu
    simp [Instr.findKey, run_underlying hk, f1, hl, hu]
  refine ⟨if ok then .tuple #[es[j].val, .bool true] else es[j].val, ?_, ?_, ?_⟩
  · simp [execOp, e1, h2.v_inv, Instr.lookup, run_underlying ht, run_getMap hheap, run_checkKey' hk hf, hfind]
  · cases ok with
    | false => exact hdv.up rfl
    | true => exact tupR (us := [es[j].val, .bool true]) rfl (by simp [hdv.up rfl]; exact .v _ _)
  · cases ok with
    | false => exact hdv.okp rfl
    | true => exact .tup _ (by simp [hdv.okp rfl]; exact .v _)
theorem o_lookup_miss {ks : List Value} {cs : List D} {kt et : TypeId} {kd : TypeDesc} {k zv : Value} {ok : Bool} (hx : ev env X = .mp ks cs) (hy : ev env Y = .v k) (ht : P.underlying t = some (.map kt et)) (hk : P.underlying kt = some kd) (hf : flatKey kd = true) (hz : (P.info? et).map (·.zero) = some (some zv)) (hj : kFind kd k ks 0 = some none) :
    OpD P C ⟨dst, .lookup t X Y ok, ty, pos, after, gu⟩ env H (bif ok then .tup [.v zv, .v (.bool false)] else .v zv) H := by
  refine OpD.same fun K β a w hw h _ => ?_
  have h1 := h X (by simp [Op.operands])
  have h2 := h Y (by simp [Op.operands])
  rw [hx] at h1; rw [hy] at h2
  obtain ⟨r, es, ck, e1, hK, hks, hlen, hds⟩ := h1.mp_inv
  have hheap := hw.holds _ _ hK
  subst hks
  obtain ⟨f1, _⟩ := findNow_of hj
  obtain ⟨inf, hi1, hi2⟩ := Option.map_eq_some_iff.1 hz
  have hfind : (Instr.findKey kt k es.toList).run P w = .ok none w := by
    simp [Instr.findKey, run_underlying hk, f1]
  refine ⟨if ok then .tuple #[zv, .bool false] else zv, ?_, ?_, ?_⟩
  · simp [execOp, e1, h2.v_inv, Instr.lookup, run_underlying ht, run_getMap hheap, run_checkKey' hk hf, hfind, zeroValue, typeInfo, hi1, hi2]
  · cases ok with
    | false => exact .v _ _
    | true => exact tupR (us := [zv, .bool false]) rfl (by simp; exact ⟨.v _ _, .v _ _⟩)
  · cases ok with
    | false => exact .v _
    | true => exact .tup _ (by simp; exact ⟨.v _, .v _⟩)
/-- The keys of a map of the call's own. -/
def keysD : List D → List Value
  | [] => []
  | .tup [.v k, _] :: cs => k :: keysD cs
  | _ :: cs => undef :: keysD cs
theorem o_makeMap (hz : True) : OpD P C ⟨dst, .makeMap t none, ty, pos, after, gu⟩ env H (.omp H.length 0) (H ++ [some ⟨[], t, false, 0⟩]) := by
  let _ := hz
  refine OpD.of (HLe.app _ _) fun K β a w hw _ _ => ⟨K, _, .map (some w.heap.size), _, ?_, KX.refl _ _, addB_agr, hw.newMap t, ?_, .omp _ _ (okV_new _ _)⟩
  · simp [execOp, Instr.makeMap, newObj]; rfl
  · have := DR.omp (K := K) (β := addB β H.length 0 ⟨w.heap.size, 0, .map⟩) H.length 0 (by rw [addB_at])
    rwa [addB_at] at this
theorem WS.putO {K : Mem} {β : Nat → Nat → BT} {w : World} (h : WS C K β H w) {id : Nat} {b b' : Blk} (hb : H[id]? = some (some b)) (hrl : (β id b.ver).real = true) (hv : b'.ver = b.ver) (o : Obj) (hR : BlkR K β (β id b.ver) b' (some o)) (ho : ∀ c ∈ b'.cs, OkD H c) :
    WS C K β (H.set id (some b')) { w with heap := w.heap.setIfInBounds (β id b.ver).blk o } := by
  have hid : id < H.length := (List.getElem?_eq_some_iff.1 hb).1
  have hlt := h.lt hb hrl
  have split : ∀ {i : Nat} {x : Blk}, (H.set id (some b'))[i]? = some (some x) → (i = id ∧ x = b') ∨ (i ≠ id ∧ H[i]? = some (some x)) := by
    intro i x hx
    rw [List.getElem?_set] at hx
    by_cases e : id = i
    · rw [if_pos e, if_pos hid] at hx; simp at hx; exact .inl ⟨e.symm, hx.symm⟩
    · rw [if_neg e] at hx; exact .inr ⟨Ne.symm e, hx⟩
  have hne : ∀ {i : Nat} {x : Blk}, H[i]? = some (some x) → (β i x.ver).real = true → i ≠ id → (β i x.ver).blk ≠ (β id b.ver).blk := fun hx hri hi he => hi (h.inj _ _ _ _ hx hb hri hrl he)
  have hother : ∀ k, k ≠ (β id b.ver).blk → (w.heap.setIfInBounds (β id b.ver).blk o)[k]? = w.heap[k]? := fun k hk => by simp [Ne.symm hk]
  refine ⟨fun b2 c hc => ?_, fun i x hx => ?_, fun i x hx c hc => ?_, fun i j x y hx hy hri hrj he => ?_, fun i x hx hr => ?_, fun i x hx hr => ?_, by show C.B ≤ (w.heap.setIfInBounds _ _).size; rw [Array.size_setIfInBounds]; exact h.size, ?_, h.agr, h.hle.trans (HLe.set hb (by rw [hv]; exact Nat.le_refl _)), h.kle⟩
  · have hn : b2 ≠ (β id b.ver).blk := by intro e; subst e; rw [h.apart id b hb hrl] at hc; cases hc
    show (w.heap.setIfInBounds _ _)[b2]? = _
    rw [hother _ hn]; exact h.holds b2 c hc
  · rcases split hx with ⟨rfl, rfl⟩ | ⟨hi, hx⟩
    · rw [hv]
      have : (w.heap.setIfInBounds (β i b.ver).blk o)[(β i b.ver).blk]? = some o := by simp [hlt]
      show BlkR _ _ _ _ ((w.heap.setIfInBounds _ _)[_]?)
      rw [this]; exact hR
    · exact (h.blk i x hx).other fun hr => hother _ (hne hx hr hi)
  · have hle : HLe H (H.set id (some b')) := HLe.set hb (by rw [hv]; exact Nat.le_refl _)
    rcases split hx with ⟨rfl, rfl⟩ | ⟨hi, hx⟩
    · exact (ho c hc).mono hle
    · exact (h.ok i x hx c hc).mono hle
  · rcases split hx with ⟨rfl, rfl⟩ | ⟨hi, hx1⟩ <;> rcases split hy with ⟨hj, rfl⟩ | ⟨hj, hy1⟩
    · exact hj.symm
    · rw [hv] at hri he; exact absurd he.symm (hne hy1 hrj hj)
    · subst hj; rw [hv] at hrj he; exact absurd he (hne hx1 hri hi)
    · exact h.inj i j x y hx1 hy1 hri hrj he
  · rcases split hx with ⟨rfl, rfl⟩ | ⟨hi, hx⟩
    · rw [hv]; exact h.apart _ b hb hrl
    · exact h.apart i x hx hr
  · rcases split hx with ⟨rfl, rfl⟩ | ⟨hi, hx⟩
    · rw [hv]; exact h.base _ b hb hrl
    · exact h.base i x hx hr
  · exact h.below.other (h.base _ _ hb hrl) rfl rfl rfl (by simp) hother
theorem EntR.keys {K : Mem} {β : Nat → Nat → BT} {es : Array MapEntry} {ck : Nat} {cs : List D} (h : EntR K β es ck cs) : keysD cs = es.toList.map (·.key) := by
  obtain ⟨es⟩ := es
  have hl : es.length = cs.length := by simpa using h.len
  have hr : ∀ (j : Nat) u d, es[j]? = some u → cs[j]? = some d → ∃ dv, d = .tup [.v u.key, dv] := fun j u d h1 h2 => (h.rd j u d (by simpa using h1) h2).imp fun _ h => h.1
  clear h
  induction es generalizing cs with
  | nil => cases cs with
    | nil => rfl
    | cons c cs => simp at hl
  | cons e es ih => cases cs with
    | nil => simp at hl
    | cons c cs =>
      obtain ⟨dv, rfl⟩ := hr 0 e c rfl rfl
      have := ih (cs := cs) (by simpa using hl) fun j u d h1 h2 => hr (j + 1) u d (by simpa using h1) (by simpa using h2)
      rw [keysD, this]; rfl
/-- A new key in a map of the call's own. -/
theorem o_insert {id : Nat} {b : Blk} {kt et : TypeId} {kd : TypeDesc} {k : Value} {d : D} (hx : ev env X = .omp id 0) (hy : ev env Y = .v k) (hz : ev env Z = d) (ht : P.underlying t = some (.map kt et)) (hk : P.underlying kt = some kd) (hf : flatKey kd = true) (hb : H[id]? = some (some b)) (hv : b.ver = 0) (hj : kFind kd k (keysD b.cs) 0 = some none) :
    OpD P C ⟨dst, .insert t X Y Z, ty, pos, after, gu⟩ env H (.v undef) (H.set id (some { b with cs := b.cs ++ [.tup [.v k, d]] })) := by
  subst hz
  refine OpD.ofSkip (HLe.set hb (Nat.le_refl _)) fun K β a w hw h hk' => ?_
  have h1 := h X (by simp [Op.operands])
  have h2 := h Y (by simp [Op.operands])
  have h3 := h Z (by simp [Op.operands])
  have h4 := hk' Z (by simp [Op.operands])
  rw [hx] at h1; rw [hy] at h2
  obtain ⟨e1, hst⟩ := h1.omp_inv
  rw [← hv] at e1 hst
  obtain ⟨es, ck, hheap, hE⟩ := hw.mapd hb hst
  rw [hE.keys] at hj
  obtain ⟨f1, _⟩ := findNow_of hj
  have hfind : (Instr.findKey kt k es.toList).run P w = .ok none w := by
    simp [Instr.findKey, run_underlying hk, f1]
  have hset : (setObj (β id b.ver).blk (.map (es.push { key := k, val := a.eval Z, born := ck }) (ck + 1))).run P w = .ok () { w with heap := w.heap.setIfInBounds (β id b.ver).blk (.map (es.push { key := k, val := a.eval Z, born := ck }) (ck + 1)) } := by
    simp [setObj, Sem.run, hheap]
  have hlen := hE.len
  refine ⟨K, β, _, ?_, KX.refl _ _, Agr.refl _ _, hw.putO hb (BT.real_ofm hst) (b' := { b with cs := b.cs ++ [.tup [.v k, ev env Z]] }) rfl (.map (es.push { key := k, val := a.eval Z, born := ck }) (ck + 1)) ?_ ?_⟩
  · simp [execOp, e1, h2.v_inv, Instr.mapUpdate, run_underlying ht, run_getMap hheap, run_checkKey' hk hf, hfind, hset]
  · unfold BlkR
    simp only [hst]
    refine ⟨_, _, rfl, by simp [hlen], fun j u d hu hd => ?_, fun i j u v hij hu hv => ?_, fun j u hu => ?_⟩
    · simp only [Array.getElem?_push] at hu
      split at hu
      · rename_i hjs
        subst hjs
        cases hu
        rw [List.getElem?_append_right (by omega)] at hd
        simp [hlen] at hd
        subst hd
        exact ⟨_, rfl, h3⟩
      · have hlt := (Array.getElem?_eq_some_iff.1 hu).1
        rw [List.getElem?_append_left (by omega)] at hd
        exact hE.rd j u d hu hd
    · simp only [Array.getElem?_push] at hu hv
      split at hv
      · cases hv
        split at hu
        · omega
        · exact hE.clock i u hu
      · split at hu
        · have hlt := (Array.getElem?_eq_some_iff.1 hv).1
          omega
        · exact hE.born i j u v hij hu hv
    · simp only [Array.getElem?_push] at hu
      split at hu
      · cases hu; simp
      · have := hE.clock j u hu; omega
  · intro c hc
    rcases List.mem_append.1 hc with h | h
    · exact hw.ok id b hb c h
    · simp at h; subst h; exact .tup _ (by simp; exact ⟨.v _, h4⟩)
end
end Go.DL
namespace Go.DL
open Go.RowKit

/-- Block j of the few is block 'rho I n j' of the many: those that were there are at the places of I, the new ones stand behind all n. -/
def rho (I : List Nat) (n j : Nat) : Nat := match I[j]? with
  | some i => i
  | none => n + (j - I.length)
/-- The same datum, its blocks called by their other numbers. -/
inductive Ren (ρ : Nat → Nat) : D → D → Prop
  | pure (d : D) (h : Pure' d) : Ren ρ d d
  | own (id ver off n sz : Nat) {i : Nat} (h : ρ id = i) : Ren ρ (.own id ver off n sz) (.own i ver off n sz)
  | ptr (id ver off : Nat) {i : Nat} (h : ρ id = i) : Ren ρ (.ptr id ver off) (.ptr i ver off)
  | omp (id ver : Nat) {i : Nat} (h : ρ id = i) : Ren ρ (.omp id ver) (.omp i ver)
  | agg (cs ds : List D) (hl : cs.length = ds.length) (h : ∀ (j : Nat) c d, cs[j]? = some c → ds[j]? = some d → Ren ρ c d) : Ren ρ (.agg cs) (.agg ds)
  | tup (cs ds : List D) (hl : cs.length = ds.length) (h : ∀ (j : Nat) c d, cs[j]? = some c → ds[j]? = some d → Ren ρ c d) : Ren ρ (.tup cs) (.tup ds)
  | fn (f : Fn) (cs ds : List D) (hl : cs.length = ds.length) (h : ∀ (j : Nat) c d, cs[j]? = some c → ds[j]? = some d → Ren ρ c d) : Ren ρ (.fn f cs) (.fn f ds)
  | iface (t : TypeId) (c d : D) (h : Ren ρ c d) : Ren ρ (.iface t c) (.iface t d)
/-- Lists, one by one. -/
def All2 {α β : Type} (R : α → β → Prop) : List α → List β → Prop
  | [], [] => True
  | a :: l, b :: m => R a b ∧ All2 R l m
  | _, _ => False
theorem All2.at {α β : Type} {R : α → β → Prop} : ∀ {l : List α} {m : List β}, All2 R l m → l.length = m.length ∧ ∀ (j : Nat) a b, l[j]? = some a → m[j]? = some b → R a b
  | [], [], _ => ⟨rfl, by simp⟩
  | a :: l, b :: m, h => by
    obtain ⟨h1, h2⟩ := h.2.at
    refine ⟨by simp [h1], fun j x y hx hy => ?_⟩
    rcases j with _ | j
    · simp at hx hy; subst hx hy; exact h.1
    · exact h2 j x y (by simpa using hx) (by simpa using hy)
  | [], _ :: _, h => h.elim
  | _ :: _, [], h => h.elim
structure RenK (ρ : Nat → Nat) (b b' : Blk) : Prop where
  e : b.e = b'.e
  grow : b.grow = b'.grow
  ver : b.ver = b'.ver
  len : b.cs.length = b'.cs.length
  cs : ∀ (j : Nat) c d, b.cs[j]? = some c → b'.cs[j]? = some d → Ren ρ c d
inductive RenB (ρ : Nat → Nat) : Option Blk → Option Blk → Prop
  | nil : RenB ρ none none
  | blk {b b' : Blk} (h : RenK ρ b b') : RenB ρ (some b) (some b')
theorem RenB.pure {ρ : Nat → Nat} {b : Blk} (h : ∀ c ∈ b.cs, Pure' c) : RenB ρ (some b) (some b) := .blk ⟨rfl, rfl, rfl, rfl, fun j c d hc hd => by
  rw [hc] at hd; cases hd; exact .pure _ (h c (List.mem_of_getElem? hc))⟩
def Picks (H : Heap) : List Nat → List (Option Blk) → Prop
  | [], [] => True
  | i :: I, b :: Bs => H[i]? = some b ∧ Picks H I Bs
  | _, _ => False
theorem Picks.at {H : Heap} : ∀ {I : List Nat} {Bs : List (Option Blk)}, Picks H I Bs → I.length = Bs.length ∧ ∀ (j : Nat) i, I[j]? = some i → H[i]? = Bs[j]?
  | [], [], _ => ⟨rfl, by simp⟩
  | i :: I, b :: Bs, h => by
    obtain ⟨h1, h2⟩ := h.2.at
    refine ⟨by simp [h1], fun j x hx => ?_⟩
    rcases j with _ | j
    · simp at hx; subst hx; exact h.1
    · exact h2 j x (by simpa using hx)
  | [], _ :: _, h => h.elim
  | _ :: _, [], h => h.elim
def putI (H : Heap) : List Nat → List (Option Blk) → Heap
  | [], _ => H
  | _ :: _, [] => H
  | i :: I, b :: Bs => putI (H.set i b) I Bs
theorem putI_len : ∀ (I : List Nat) (Bs : List (Option Blk)) (H : Heap), (putI H I Bs).length = H.length
  | [], _, _ => by rw [putI]
  | _ :: _, [], _ => by rw [putI]
  | i :: I, b :: Bs, H => by rw [putI, putI_len I Bs]; simp
theorem putI_out : ∀ (I : List Nat) (Bs : List (Option Blk)) (H : Heap) (k : Nat), k ∉ I → (putI H I Bs)[k]? = H[k]?
  | [], _, _, _, _ => by rw [putI]
  | _ :: _, [], _, _, _ => by rw [putI]
  | i :: I, b :: Bs, H, k, hk => by
    rw [putI, putI_out I Bs _ k (fun h => hk (List.mem_cons_of_mem _ h)), List.getElem?_set, if_neg (fun h => hk (by rw [h]; exact List.mem_cons_self))]
theorem putI_in : ∀ (I : List Nat) (Bs : List (Option Blk)) (H : Heap) (j i : Nat), I.Nodup → I.length = Bs.length → (∀ i ∈ I, i < H.length) → I[j]? = some i → (putI H I Bs)[i]? = Bs[j]?
  | [], _, _, j, i, _, _, _, h => by simp at h
  | _ :: _, [], _, _, _, _, hl, _, _ => by simp at hl
  | i' :: I, b :: Bs, H, j, i, hn, hl, hlt, h => by
    rw [putI]
    rcases j with _ | j
    · simp at h; subst h
      rw [putI_out I Bs _ _ (List.nodup_cons.1 hn).1, List.getElem?_set_self (hlt _ List.mem_cons_self)]; rfl
    · rw [putI_in I Bs _ j i (List.nodup_cons.1 hn).2 (by simpa using hl) (fun k hk => by rw [List.length_set]; exact hlt k (List.mem_cons_of_mem _ hk)) (by simpa using h)]; rfl

theorem Pure'.ok {d : D} (h : Pure' d) (H : Heap) : OkD H d := by
  induction h with
  | any => exact .any
  | v x => exact .v x
  | rd n cs => exact .rd n cs
  | adr cs => exact .adr cs
  | agg cs _ ih => exact .agg cs ih
  | tup cs _ ih => exact .tup cs ih
  | fn f cs _ ih => exact .fn f cs ih
  | iface t d _ ih => exact .iface t d ih
  | mp ks cs => exact .mp ks cs
theorem DR.pureβ {K : Mem} {β β' : Nat → Nat → BT} {m : Bool} {x : Value} {d : D} (h : DR K β m x d) (hp : Pure' d) : DR K β' m x d := by
  have := (h.down hp).pure (β' := β') rfl
  cases m with
  | false => exact this
  | true => exact this.up rfl
theorem DR.unren {K : Mem} {β β' : Nat → Nat → BT} {ρ : Nat → Nat} (hβ : ∀ j v, β' j v = β (ρ j) v) {c d : D} (hr : Ren ρ c d) : ∀ {m : Bool} {x : Value}, DR K β m x d → DR K β' m x c := by
  induction hr with
  | pure d h => intro m x hx; exact hx.pureβ h
  | own id ver off n sz h =>
    subst h
    intro m x hx
    cases hx with
    | own _ _ _ _ _ c hn hm hc hr => rw [← hβ] at hc hr ⊢; exact .own id ver off n sz c hn hm hc hr
    | own0 _ _ _ hr => rw [← hβ] at hr; exact .own0 id ver sz hr
  | ptr id ver off h =>
    subst h
    intro m x hx
    cases hx with
    | ptr _ _ _ hr => rw [← hβ] at hr ⊢; exact .ptr id ver off hr
  | omp id ver h =>
    subst h
    intro m x hx
    cases hx with
    | omp _ _ hr => rw [← hβ] at hr ⊢; exact .omp id ver hr
  | agg cs ds hl _ ih =>
    intro m x hx
    cases hx with
    | agg _ us _ hl' hd =>
      exact .agg _ us cs (by omega) fun j u c hu hc => by
        have hj : j < ds.length := by rw [← hl]; exact (List.getElem?_eq_some_iff.1 hc).1
        exact ih j c ds[j] hc (List.getElem?_eq_getElem hj) (hd j u _ hu (List.getElem?_eq_getElem hj))
  | tup cs ds hl _ ih =>
    intro m x hx
    cases hx with
    | tup _ us _ hl' hd =>
      exact .tup _ us cs (by omega) fun j u c hu hc => by
        have hj : j < ds.length := by rw [← hl]; exact (List.getElem?_eq_some_iff.1 hc).1
        exact ih j c ds[j] hc (List.getElem?_eq_getElem hj) (hd j u _ hu (List.getElem?_eq_getElem hj))
  | fn f cs ds hl _ ih =>
    intro m x hx
    cases hx with
    | fn _ _ us _ hl' hd =>
      exact .fn _ f us cs (by omega) fun j u c hu hc => by
        have hj : j < ds.length := by rw [← hl]; exact (List.getElem?_eq_some_iff.1 hc).1
        exact ih j c ds[j] hc (List.getElem?_eq_getElem hj) (hd j u _ hu (List.getElem?_eq_getElem hj))
  | iface t c d _ ih =>
    intro m x hx
    obtain ⟨u, rfl, hu⟩ := hx.iface_inv
    exact .iface _ t u c (ih hu)
theorem DR.ren {K : Mem} {β β' : Nat → Nat → BT} {ρ : Nat → Nat} {H : Heap} (hβ : ∀ j v, j < H.length → β' (ρ j) v = β j v) {c d : D} (hr : Ren ρ c d) : OkD H c → ∀ {m : Bool} {x : Value}, DR K β m x c → DR K β' m x d := by
  induction hr with
  | pure d h => intro _ m x hx; exact hx.pureβ h
  | own id ver off n sz h =>
    subst h
    intro ho m x hx
    have hid : id < H.length := by cases ho with | own _ _ _ _ _ h => exact h.lt
    have e := hβ id ver hid
    cases hx with
    | own _ _ _ _ _ c hn hm hc hr => rw [← e] at hc hr ⊢; exact .own _ ver off n sz c hn hm hc hr
    | own0 _ _ _ hr => rw [← e] at hr; exact .own0 _ ver sz hr
  | ptr id ver off h =>
    subst h
    intro ho m x hx
    have hid : id < H.length := by cases ho with | ptr _ _ _ h => exact h.lt
    have e := hβ id ver hid
    cases hx with
    | ptr _ _ _ hr => rw [← e] at hr ⊢; exact .ptr _ ver off hr
  | omp id ver h =>
    subst h
    intro ho m x hx
    have hid : id < H.length := by cases ho with | omp _ _ h => exact h.lt
    have e := hβ id ver hid
    cases hx with
    | omp _ _ hr => rw [← e] at hr ⊢; exact .omp _ ver hr
  | agg cs ds hl _ ih =>
    intro ho m x hx
    cases ho with
    | agg _ ho =>
      cases hx with
      | agg _ us _ hl' hd =>
        exact .agg _ us ds (by omega) fun j u d hu hd' => by
          have hj : j < cs.length := by rw [hl]; exact (List.getElem?_eq_some_iff.1 hd').1
          exact ih j cs[j] d (List.getElem?_eq_getElem hj) hd' (ho _ (List.getElem_mem hj)) (hd j u _ hu (List.getElem?_eq_getElem hj))
  | tup cs ds hl _ ih =>
    intro ho m x hx
    cases ho with
    | tup _ ho =>
      cases hx with
      | tup _ us _ hl' hd =>
        exact .tup _ us ds (by omega) fun j u d hu hd' => by
          have hj : j < cs.length := by rw [hl]; exact (List.getElem?_eq_some_iff.1 hd').1
          exact ih j cs[j] d (List.getElem?_eq_getElem hj) hd' (ho _ (List.getElem_mem hj)) (hd j u _ hu (List.getElem?_eq_getElem hj))
  | fn f cs ds hl _ ih =>
    intro ho m x hx
    cases ho with
    | fn _ _ ho =>
      cases hx with
      | fn _ _ us _ hl' hd =>
        exact .fn _ f us ds (by omega) fun j u d hu hd' => by
          have hj : j < cs.length := by rw [hl]; exact (List.getElem?_eq_some_iff.1 hd').1
          exact ih j cs[j] d (List.getElem?_eq_getElem hj) hd' (ho _ (List.getElem_mem hj)) (hd j u _ hu (List.getElem?_eq_getElem hj))
  | iface t c d _ ih =>
    intro ho m x hx
    cases ho with
    | iface _ _ ho =>
      obtain ⟨u, rfl, hu⟩ := hx.iface_inv
      exact .iface _ t u d (ih ho hu)
theorem OkD.ren {ρ : Nat → Nat} {H H' : Heap} (hv : ∀ j v, okV H j v → okV H' (ρ j) v) {c d : D} (hr : Ren ρ c d) : OkD H c → OkD H' d := by
  induction hr with
  | pure d h => intro _; exact h.ok _
  | own id ver off n sz h => subst h; intro ho; cases ho with | own _ _ _ _ _ h => exact .own _ _ _ _ _ (hv _ _ h)
  | ptr id ver off h => subst h; intro ho; cases ho with | ptr _ _ _ h => exact .ptr _ _ _ (hv _ _ h)
  | omp id ver h => subst h; intro ho; cases ho with | omp _ _ h => exact .omp _ _ (hv _ _ h)
  | agg cs ds hl _ ih =>
    intro ho
    cases ho with
    | agg _ ho =>
      exact .agg _ fun d hd => by
        obtain ⟨j, hj⟩ := List.getElem?_of_mem hd
        have hlt : j < cs.length := by rw [hl]; exact (List.getElem?_eq_some_iff.1 hj).1
        exact ih j cs[j] d (List.getElem?_eq_getElem hlt) hj (ho _ (List.getElem_mem hlt))
  | tup cs ds hl _ ih =>
    intro ho
    cases ho with
    | tup _ ho =>
      exact .tup _ fun d hd => by
        obtain ⟨j, hj⟩ := List.getElem?_of_mem hd
        have hlt : j < cs.length := by rw [hl]; exact (List.getElem?_eq_some_iff.1 hj).1
        exact ih j cs[j] d (List.getElem?_eq_getElem hlt) hj (ho _ (List.getElem_mem hlt))
  | fn f cs ds hl _ ih =>
    intro ho
    cases ho with
    | fn _ _ ho =>
      exact .fn _ _ fun d hd => by
        obtain ⟨j, hj⟩ := List.getElem?_of_mem hd
        have hlt : j < cs.length := by rw [hl]; exact (List.getElem?_eq_some_iff.1 hj).1
        exact ih j cs[j] d (List.getElem?_eq_getElem hlt) hj (ho _ (List.getElem_mem hlt))
  | iface t c d _ ih =>
    intro ho
    cases ho with
    | iface _ _ ho => exact .iface _ _ (ih ho)
theorem OkD.unren {ρ : Nat → Nat} {H H' : Heap} (hv : ∀ j v, okV H' (ρ j) v → okV H j v) {c d : D} (hr : Ren ρ c d) : OkD H' d → OkD H c := by
  induction hr with
  | pure d h => intro _; exact h.ok _
  | own id ver off n sz h => subst h; intro ho; cases ho with | own _ _ _ _ _ h => exact .own _ _ _ _ _ (hv _ _ h)
  | ptr id ver off h => subst h; intro ho; cases ho with | ptr _ _ _ h => exact .ptr _ _ _ (hv _ _ h)
  | omp id ver h => subst h; intro ho; cases ho with | omp _ _ h => exact .omp _ _ (hv _ _ h)
  | agg cs ds hl _ ih =>
    intro ho
    cases ho with
    | agg _ ho =>
      exact .agg _ fun c hc => by
        obtain ⟨j, hj⟩ := List.getElem?_of_mem hc
        have hlt : j < ds.length := by rw [← hl]; exact (List.getElem?_eq_some_iff.1 hj).1
        exact ih j c ds[j] hj (List.getElem?_eq_getElem hlt) (ho _ (List.getElem_mem hlt))
  | tup cs ds hl _ ih =>
    intro ho
    cases ho with
    | tup _ ho =>
      exact .tup _ fun c hc => by
        obtain ⟨j, hj⟩ := List.getElem?_of_mem hc
        have hlt : j < ds.length := by rw [← hl]; exact (List.getElem?_eq_some_iff.1 hj).1
        exact ih j c ds[j] hj (List.getElem?_eq_getElem hlt) (ho _ (List.getElem_mem hlt))
  | fn f cs ds hl _ ih =>
    intro ho
    cases ho with
    | fn _ _ ho =>
      exact .fn _ _ fun c hc => by
        obtain ⟨j, hj⟩ := List.getElem?_of_mem hc
        have hlt : j < ds.length := by rw [← hl]; exact (List.getElem?_eq_some_iff.1 hj).1
        exact ih j c ds[j] hj (List.getElem?_eq_getElem hlt) (ho _ (List.getElem_mem hlt))
  | iface t c d _ ih =>
    intro ho
    cases ho with
    | iface _ _ ho => exact .iface _ _ (ih ho)
theorem Ren.v_inv {ρ : Nat → Nat} {c : D} {x : Value} (h : Ren ρ c (.v x)) : c = .v x := by cases h; rfl
theorem Ren.v_inv' {ρ : Nat → Nat} {d : D} {x : Value} (h : Ren ρ (.v x) d) : d = .v x := by cases h; rfl
theorem RenK.unblk {K : Mem} {β β' : Nat → Nat → BT} {ρ : Nat → Nat} {b b' : Blk} {t : BT} {o : Option Obj} (hβ : ∀ j v, β' j v = β (ρ j) v) (h : RenK ρ b b') (hb : BlkR K β t b' o) : BlkR K β' t b o := by
  have hlen := h.len
  unfold BlkR at *
  cases hs : t.st with
  | none => rw [hs] at hb; simp only at hb ⊢; rw [hb] at hlen; exact List.eq_nil_of_length_eq_zero (by simpa using hlen)
  | cells =>
    rw [hs] at hb
    obtain ⟨us, rest, e, hl, ht, hg, hd⟩ := hb
    refine ⟨us, rest, by rw [h.e]; exact e, by omega, ht, by rw [h.grow]; exact hg, fun j u c hu hc => ?_⟩
    have hj : j < b'.cs.length := by rw [← hlen]; exact (List.getElem?_eq_some_iff.1 hc).1
    exact (hd j u _ hu (List.getElem?_eq_getElem hj)).unren hβ (h.cs j c _ hc (List.getElem?_eq_getElem hj))
  | map =>
    rw [hs] at hb
    obtain ⟨es, ck, e, hE⟩ := hb
    have hel := hE.len
    refine ⟨es, ck, e, by omega, fun j u c hu hc => ?_, hE.born, hE.clock⟩
    have hj : j < b'.cs.length := by rw [← hlen]; exact (List.getElem?_eq_some_iff.1 hc).1
    obtain ⟨dv, e1, hdv⟩ := hE.rd j u _ hu (List.getElem?_eq_getElem hj)
    have hr := h.cs j c _ hc (List.getElem?_eq_getElem hj)
    rw [e1] at hr
    cases hr with
    | pure _ hp =>
      cases hp with
      | tup _ hp => exact ⟨dv, rfl, hdv.pureβ (hp dv (by simp))⟩
    | tup cs _ hl2 hh =>
      match cs, hl2 with
      | [c0, c1], _ =>
        have := (hh 0 c0 (.v u.key) rfl rfl).v_inv
        subst this
        exact ⟨c1, rfl, hdv.unren hβ (hh 1 c1 dv rfl rfl)⟩
theorem RenK.blk {K : Mem} {β β' : Nat → Nat → BT} {ρ : Nat → Nat} {H : Heap} {b b' : Blk} {t : BT} {o : Option Obj} (hβ : ∀ j v, j < H.length → β' (ρ j) v = β j v) (ho : ∀ c ∈ b.cs, OkD H c) (h : RenK ρ b b') (hb : BlkR K β t b o) : BlkR K β' t b' o := by
  have hlen := h.len
  unfold BlkR at *
  cases hs : t.st with
  | none => rw [hs] at hb; simp only at hb ⊢; rw [hb] at hlen; exact List.eq_nil_of_length_eq_zero (by simpa using hlen.symm)
  | cells =>
    rw [hs] at hb
    obtain ⟨us, rest, e, hl, ht, hg, hd⟩ := hb
    refine ⟨us, rest, by rw [← h.e]; exact e, by omega, ht, by rw [← h.grow]; exact hg, fun j u d hu hd' => ?_⟩
    have hj : j < b.cs.length := by rw [hlen]; exact (List.getElem?_eq_some_iff.1 hd').1
    exact (hd j u _ hu (List.getElem?_eq_getElem hj)).ren hβ (h.cs j _ d (List.getElem?_eq_getElem hj) hd') (ho _ (List.getElem_mem hj))
  | map =>
    rw [hs] at hb
    obtain ⟨es, ck, e, hE⟩ := hb
    have hel := hE.len
    refine ⟨es, ck, e, by omega, fun j u d hu hd' => ?_, hE.born, hE.clock⟩
    have hj : j < b.cs.length := by rw [hlen]; exact (List.getElem?_eq_some_iff.1 hd').1
    obtain ⟨dv, e1, hdv⟩ := hE.rd j u _ hu (List.getElem?_eq_getElem hj)
    have hok := ho _ (List.getElem_mem hj)
    have hr := h.cs j _ d (List.getElem?_eq_getElem hj) hd'
    rw [e1] at hr hok
    cases hok with
    | tup _ hok =>
      cases hr with
      | pure _ hp =>
        cases hp with
        | tup _ hp => exact ⟨dv, rfl, hdv.pureβ (hp dv (by simp))⟩
      | tup _ ds hl2 hh =>
        match ds, hl2 with
        | [d0, d1], _ =>
          have := (hh 0 (.v u.key) d0 rfl rfl).v_inv'
          subst this
          exact ⟨d1, rfl, hdv.ren hβ (hh 1 dv d1 rfl rfl) (hok dv (by simp))⟩

inductive ORen (ρ : Nat → Nat) : DOut → DOut → Prop
  | ret {c d : D} (h : Ren ρ c d) : ORen ρ (.ret c) (.ret d)
  | pan {c d : D} (h : Ren ρ c d) : ORen ρ (.pan c) (.pan d)
theorem frameAt {T : Array Value → World → (Ending → World → Prop) → Prop} (hT : ∀ {as_ : Array Value} {w : World} {R R' : Ending → World → Prop}, T as_ w R → (∀ e w, R e w → R' e w) → T as_ w R') {ds0 ds : List D} {H0 H : Heap} {Q Q' : DOut → Heap → Prop} (I : List Nat) (Bs : List (Option Blk)) {K : Mem} {β : Nat → Nat → BT} {w : World} {vs : List Value}
    (h : ∀ β1 : Nat → Nat → BT, (∀ j v, β1 j v = β (rho I H.length j) v) → WS (given K β1 H0 w) K β1 H0 w → vs.length = ds0.length → (∀ (j : Nat) v d, vs[j]? = some v → ds0[j]? = some d → DR K β1 true v d) → (∀ d ∈ ds0, OkD H0 d) →
      T vs.toArray w fun e w' => ∃ v d K' β' H', Ext (given K β1 H0 w) K β1 H0 K' β' H' ∧ WS (given K β1 H0 w) K' β' H' w' ∧ DR K' β' true v d ∧ OkD H' d ∧ ((e = .returned v ∧ Q (.ret d) H') ∨ (e = .panicked [{ v, recovered := false }] ∧ Q (.pan d) H')))
    (hI : I.Nodup) (hP : Picks H I Bs) (hr : All2 (RenB (rho I H.length)) H0 Bs) (hds : All2 (Ren (rho I H.length)) ds0 ds)
    (hQ : ∀ o0 H0', Q o0 H0' → ∃ o Bs' News, Bs'.length = I.length ∧ All2 (RenB (rho I H.length)) H0' (Bs' ++ News) ∧ ORen (rho I H.length) o0 o ∧ Q' o (putI H I Bs' ++ News))
    (hw : WS (given K β H w) K β H w) (hl : vs.length = ds.length) (hv : ∀ (j : Nat) v d, vs[j]? = some v → ds[j]? = some d → DR K β true v d) (ho : ∀ d ∈ ds, OkD H d) :
    T vs.toArray w fun e w' => ∃ v d K' β' H', Ext (given K β H w) K β H K' β' H' ∧ WS (given K β H w) K' β' H' w' ∧ DR K' β' true v d ∧ OkD H' d ∧ ((e = .returned v ∧ Q' (.ret d) H') ∨ (e = .panicked [{ v, recovered := false }] ∧ Q' (.pan d) H')) := by
  obtain ⟨pl, pat⟩ := hP.at
  obtain ⟨rl, rat⟩ := hr.at
  obtain ⟨dl, dat⟩ := hds.at
  generalize hρ : rho I H.length = ρ at *
  have hI0 : H0.length = I.length := by omega
  have hin : ∀ j i, I[j]? = some i → ρ j = i := fun j i h => by rw [← hρ]; unfold rho; rw [h]
  have hout : ∀ j, I.length ≤ j → ρ j = H.length + (j - I.length) := fun j h => by rw [← hρ]; unfold rho; rw [List.getElem?_eq_none h]
  have hIlt : ∀ i ∈ I, i < H.length := fun i hi => by
    obtain ⟨j, hj⟩ := List.getElem?_of_mem hi
    have h1 := pat j i hj
    have hjl : j < Bs.length := by rw [← pl]; exact (List.getElem?_eq_some_iff.1 hj).1
    rw [List.getElem?_eq_getElem hjl] at h1
    exact (List.getElem?_eq_some_iff.1 h1).1
  have hinj : ∀ i j, ρ i = ρ j → i = j := fun i j e => by
    by_cases hi : i < I.length <;> by_cases hj : j < I.length
    · rw [hin i _ (List.getElem?_eq_getElem hi), hin j _ (List.getElem?_eq_getElem hj)] at e
      exact (List.getElem_inj hI).1 e
    · rw [hin i _ (List.getElem?_eq_getElem hi), hout j (by omega)] at e
      have := hIlt _ (List.getElem_mem hi); omega
    · rw [hin j _ (List.getElem?_eq_getElem hj), hout i (by omega)] at e
      have := hIlt _ (List.getElem_mem hj); omega
    · rw [hout i (by omega), hout j (by omega)] at e; omega
  -- what block j of the few is among the many
  have hblk : ∀ j b0, H0[j]? = some (some b0) → ∃ b, H[ρ j]? = some (some b) ∧ RenK ρ b0 b := fun j b0 hb0 => by
    have hj : j < I.length := by rw [← hI0]; exact (List.getElem?_eq_some_iff.1 hb0).1
    have h1 := pat j _ (List.getElem?_eq_getElem hj)
    rw [← hin j _ (List.getElem?_eq_getElem hj)] at h1
    have hjB : j < Bs.length := by omega
    have h2 := rat j _ _ hb0 (List.getElem?_eq_getElem hjB)
    rw [List.getElem?_eq_getElem hjB] at h1
    cases hB : Bs[j] with
    | none => rw [hB] at h2; cases h2
    | some b => rw [hB] at h1 h2; cases h2 with | blk h => exact ⟨b, h1, h⟩
  have hokV : ∀ j v, okV H (ρ j) v → okV H0 j v := fun j v hv => by
    have hlt := hv.lt
    have hj : j < I.length := by
      by_cases hj : j < I.length
      · exact hj
      · rw [hout j (by omega)] at hlt; omega
    have h1 := pat j _ (List.getElem?_eq_getElem hj)
    rw [← hin j _ (List.getElem?_eq_getElem hj)] at h1
    have hjB : j < Bs.length := by omega
    have hj0 : j < H0.length := by omega
    have h2 := rat j _ _ (List.getElem?_eq_getElem hj0) (List.getElem?_eq_getElem hjB)
    rw [List.getElem?_eq_getElem hjB] at h1
    unfold okV at hv ⊢
    rw [h1] at hv
    rw [List.getElem?_eq_getElem hj0]
    generalize H0[j] = x at *
    generalize Bs[j] = y at *
    cases h2 with
    | nil => trivial
    | blk h => simp only at hv ⊢; rw [h.ver]; exact hv
  let β1 : Nat → Nat → BT := fun j v => β (ρ j) v
  have hβ1 : ∀ j v, β1 j v = β (ρ j) v := fun _ _ => rfl
  have hgive : ∀ k, gives β1 H0 k → gives β H k := fun k ⟨j, b0, hb0, hr0, e⟩ => by
    obtain ⟨b, hb, hk⟩ := hblk j b0 hb0
    refine ⟨ρ j, b, hb, ?_, ?_⟩
    · rw [← hk.ver]; exact hr0
    · rw [← hk.ver]; exact e
  have hs : WS (given K β1 H0 w) K β1 H0 w := by
    refine ⟨hw.holds, fun j b0 hb0 => ?_, fun j b0 hb0 c hc => ?_, fun i j b b' hb hb' hri hrj he => ?_, fun j b0 hb0 hr0 => ?_, fun j b0 hb0 hr0 => .inr ⟨j, b0, hb0, hr0, rfl⟩, Nat.le_refl _, Bel.start _, Agr.refl _ _, HLe.refl _, Mem.le.refl _⟩
    · obtain ⟨b, hb, hk⟩ := hblk j b0 hb0
      have := hw.blk _ b hb
      rw [hβ1, hk.ver]
      exact hk.unblk hβ1 this
    · obtain ⟨b, hb, hk⟩ := hblk j b0 hb0
      obtain ⟨n, hn⟩ := List.getElem?_of_mem hc
      have hlt : n < b.cs.length := by rw [← hk.len]; exact (List.getElem?_eq_some_iff.1 hn).1
      exact OkD.unren hokV (hk.cs n c _ hn (List.getElem?_eq_getElem hlt)) (hw.ok _ b hb _ (List.getElem_mem hlt))
    · obtain ⟨c, hc, hk⟩ := hblk i b hb
      obtain ⟨c', hc', hk'⟩ := hblk j b' hb'
      rw [hβ1, hk.ver] at hri he
      rw [hβ1, hk'.ver] at hrj
      rw [hβ1, hk'.ver] at he
      exact hinj _ _ (hw.inj _ _ c c' hc hc' hri hrj he)
    · obtain ⟨b, hb, hk⟩ := hblk j b0 hb0
      rw [hβ1, hk.ver] at hr0 ⊢
      exact hw.apart _ b hb hr0
  refine hT (h β1 hβ1 hs (by omega) (fun j v d hv' hd => ?_) (fun d hd => ?_)) fun e w' ⟨v, d0, K', β', H0', hX, hs', hdr, hok, hout'⟩ => ?_
  · have hj : j < ds.length := by rw [← dl]; exact (List.getElem?_eq_some_iff.1 hd).1
    exact (hv j v _ hv' (List.getElem?_eq_getElem hj)).unren hβ1 (dat j d _ hd (List.getElem?_eq_getElem hj))
  · obtain ⟨j, hj⟩ := List.getElem?_of_mem hd
    have hlt : j < ds.length := by rw [← dl]; exact (List.getElem?_eq_some_iff.1 hj).1
    exact OkD.unren hokV (dat j d _ hj (List.getElem?_eq_getElem hlt)) (ho _ (List.getElem_mem hlt))
  · have hq : ∃ o0, Q o0 H0' ∧ ((e = .returned v ∧ o0 = .ret d0) ∨ (e = .panicked [{ v, recovered := false }] ∧ o0 = .pan d0)) := by
      rcases hout' with ⟨h1, h2⟩ | ⟨h1, h2⟩
      · exact ⟨_, h2, .inl ⟨h1, rfl⟩⟩
      · exact ⟨_, h2, .inr ⟨h1, rfl⟩⟩
    obtain ⟨o0, hQ0, hends⟩ := hq
    obtain ⟨o, Bs', News, hBl, hr', hoR, hQ'⟩ := hQ o0 H0' hQ0
    obtain ⟨rl', rat'⟩ := hr'.at
    rw [List.length_append, hBl] at rl'
    let β2 : Nat → Nat → BT := fun i v => match I.idxOf? i with
      | some j => β' j v
      | none => if i < H.length then β i v else β' (I.length + (i - H.length)) v
    have hidx : ∀ j i, I[j]? = some i → I.idxOf? i = some j := fun j i hj => by
      have hjl := (List.getElem?_eq_some_iff.1 hj).1
      have he := (List.getElem?_eq_some_iff.1 hj).2
      rw [List.idxOf?_eq_some_iff]
      refine ⟨hjl, he, fun k hk => ?_⟩
      intro e2
      have := (List.getElem_inj (h₀ := by omega) (h₁ := hjl) hI).1 (e2.trans he.symm)
      omega
    have hidn : ∀ i, i ∉ I → I.idxOf? i = none := fun i hi => by rw [List.idxOf?_eq_none_iff]; exact hi
    have hβ2 : ∀ j v, j < H0'.length → β2 (ρ j) v = β' j v := fun j v hj => by
      by_cases hjI : j < I.length
      · have := hin j _ (List.getElem?_eq_getElem hjI)
        rw [this]
        show (match I.idxOf? _ with | some j => _ | none => _) = _
        rw [hidx j _ (List.getElem?_eq_getElem hjI)]
      · rw [hout j (by omega)]
        show (match I.idxOf? _ with | some j => _ | none => _) = _
        rw [hidn _ (fun h => by have := hIlt _ h; omega)]
        simp only
        rw [if_neg (by omega), show I.length + (H.length + (j - I.length) - H.length) = j by omega]
    have hβ2r : ∀ i v, i ∉ I → i < H.length → β2 i v = β i v := fun i v hi hlt => by
      show (match I.idxOf? _ with | some j => _ | none => _) = _
      rw [hidn i hi]
      simp only
      rw [if_pos hlt]
    generalize hβ2e : β2 = β2' at hβ2 hβ2r
    have hH' : ∀ j, j < H0'.length → (putI H I Bs' ++ News)[ρ j]? = (Bs' ++ News)[j]? := fun j hj => by
      by_cases hjI : j < I.length
      · have h1 := hin j _ (List.getElem?_eq_getElem hjI)
        rw [h1, List.getElem?_append_left (by rw [putI_len]; exact hIlt _ (List.getElem_mem hjI)), List.getElem?_append_left (by omega), putI_in I Bs' H j _ hI hBl.symm hIlt (List.getElem?_eq_getElem hjI)]
      · rw [hout j (by omega), List.getElem?_append_right (by rw [putI_len]; omega), List.getElem?_append_right (by omega), putI_len]
        congr 1
        omega
    have hHr : ∀ i, i ∉ I → i < H.length → (putI H I Bs' ++ News)[i]? = H[i]? := fun i hi hlt => by
      rw [List.getElem?_append_left (by rw [putI_len]; exact hlt), putI_out I Bs' H i hi]
    -- every block of the many behind the call
    have hcase : ∀ i b, (putI H I Bs' ++ News)[i]? = some (some b) → (∃ j b0, i = ρ j ∧ H0'[j]? = some (some b0) ∧ RenK ρ b0 b) ∨ (i ∉ I ∧ i < H.length ∧ H[i]? = some (some b)) := fun i b hb => by
      have hlen : i < H.length + News.length := by have := (List.getElem?_eq_some_iff.1 hb).1; rw [List.length_append, putI_len] at this; exact this
      have few : ∀ j, i = ρ j → j < H0'.length → (∃ j b0, i = ρ j ∧ H0'[j]? = some (some b0) ∧ RenK ρ b0 b) := fun j e hj => by
        rw [e, hH' j hj] at hb
        have h2 := rat' j _ _ (List.getElem?_eq_getElem hj) hb
        cases hx : H0'[j] with
        | none => rw [hx] at h2; cases h2
        | some b0 => rw [hx] at h2; cases h2 with | blk h => exact ⟨j, b0, e, by rw [List.getElem?_eq_getElem hj, hx], h⟩
      by_cases hiI : i ∈ I
      · obtain ⟨j, hj⟩ := List.getElem?_of_mem hiI
        have hjl := (List.getElem?_eq_some_iff.1 hj).1
        exact .inl (few j (hin j i hj).symm (by omega))
      · by_cases hlt : i < H.length
        · exact .inr ⟨hiI, hlt, by rw [← hHr i hiI hlt]; exact hb⟩
        · exact .inl (few (I.length + (i - H.length)) (by rw [hout _ (by omega)]; omega) (by omega))
    have hokV' : ∀ j v, okV H0' j v → okV (putI H I Bs' ++ News) (ρ j) v := fun j v hv => by
      have hj := hv.lt
      have hjB : j < (Bs' ++ News).length := by rw [List.length_append, hBl]; omega
      have h2 := rat' j _ _ (List.getElem?_eq_getElem hj) (List.getElem?_eq_getElem hjB)
      unfold okV at hv ⊢
      rw [hH' j hj, List.getElem?_eq_getElem hjB]
      rw [List.getElem?_eq_getElem hj] at hv
      generalize H0'[j] = x at *
      generalize (Bs' ++ News)[j] = y at *
      cases h2 with
      | nil => trivial
      | blk h => simp only at hv ⊢; rw [← h.ver]; exact hv
    have hagr : Agr H β β2' := fun i v hv => by
      have hlt := hv.lt
      by_cases hiI : i ∈ I
      · obtain ⟨j, hj⟩ := List.getElem?_of_mem hiI
        have hjl := (List.getElem?_eq_some_iff.1 hj).1
        have e := hin j i hj
        rw [← e] at hv ⊢
        have h0 := hokV j v hv
        rw [hβ2 j v (by omega), hX.ag j v h0]
      · exact hβ2r i v hiI hlt
    have hle : HLe H (putI H I Bs' ++ News) := fun i v hv => by
      have hlt := hv.lt
      by_cases hiI : i ∈ I
      · obtain ⟨j, hj⟩ := List.getElem?_of_mem hiI
        have e := hin j i hj
        rw [← e] at hv ⊢
        exact hokV' j v (hX.le j v (hokV j v hv))
      · unfold okV at hv ⊢
        rw [hHr i hiI hlt]; exact hv
    have hnotg : ∀ i b, i ∉ I → H[i]? = some (some b) → (β i b.ver).real = true → ¬ gives β1 H0 (β i b.ver).blk := fun i b hiI hb hrl ⟨j, b0, hb0, hr0, e⟩ => by
      obtain ⟨c, hc, hk⟩ := hblk j b0 hb0
      rw [hβ1, hk.ver] at hr0 e
      have := hw.inj _ _ c b hc hb hr0 hrl e
      have hj : j < I.length := by rw [← hI0]; exact (List.getElem?_eq_some_iff.1 hb0).1
      rw [hin j _ (List.getElem?_eq_getElem hj)] at this
      exact hiI (by rw [← this]; exact List.getElem_mem hj)
    have hwsN : WS (given K β H w) K' β2' (putI H I Bs' ++ News) w' := by
      refine ⟨hs'.holds, fun i b hb => ?_, fun i b hb c hc => ?_, fun i j b b' hb hb' hri hrj he => ?_, fun i b hb hr0 => ?_, fun i b hb hr0 => ?_, hs'.size, ⟨hs'.below.os, hs'.below.tape, hs'.below.output, hs'.below.size, fun k hk hg => hs'.below.block k hk fun h => hg (hgive k h)⟩, hagr, hle, hX.kx.le⟩
      · rcases hcase i b hb with ⟨j, b0, rfl, hb0, hk⟩ | ⟨hiI, hlt, hb1⟩
        · have hj := (List.getElem?_eq_some_iff.1 hb0).1
          rw [hβ2 j _ hj, ← hk.ver]
          exact hk.blk hβ2 (hs'.ok j b0 hb0) (hs'.blk j b0 hb0)
        · rw [hβ2r i _ hiI hlt]
          refine ((hw.blk i b hb1).mono hX.kx.le (hw.ok i b hb1) hagr).other fun hrl => ?_
          exact hs'.below.block _ (hw.lt hb1 hrl) (hnotg i b hiI hb1 hrl)
      · rcases hcase i b hb with ⟨j, b0, rfl, hb0, hk⟩ | ⟨hiI, hlt, hb1⟩
        · obtain ⟨n, hn⟩ := List.getElem?_of_mem hc
          have hlt : n < b0.cs.length := by rw [hk.len]; exact (List.getElem?_eq_some_iff.1 hn).1
          exact OkD.ren hokV' (hk.cs n _ c (List.getElem?_eq_getElem hlt) hn) (hs'.ok j b0 hb0 _ (List.getElem_mem hlt))
        · exact (hw.ok i b hb1 c hc).mono hle
      · have mixed : ∀ {i j : Nat} {b0 b : Blk}, H0'[i]? = some (some b0) → (β' i b0.ver).real = true → j ∉ I → H[j]? = some (some b) → (β j b.ver).real = true → (β' i b0.ver).blk ≠ (β j b.ver).blk := fun {i j b0 b} hb0 hr0 hjI hb hrl e => by
          rcases hs'.base i b0 hb0 hr0 with h1 | h1
          · have := hw.lt hb hrl
            have h1' : w.heap.size ≤ (β' i b0.ver).blk := h1
            omega
          · rw [e] at h1; exact hnotg j b hjI hb hrl h1
        rcases hcase i b hb with ⟨i', b0, rfl, hb0, hk⟩ | ⟨hiI, hlt, hb1⟩ <;> rcases hcase j b' hb' with ⟨j', b0', rfl, hb0', hk'⟩ | ⟨hjI, hlt', hb1'⟩
        · have hi := (List.getElem?_eq_some_iff.1 hb0).1
          have hj := (List.getElem?_eq_some_iff.1 hb0').1
          rw [hβ2 i' _ hi, ← hk.ver] at hri he
          rw [hβ2 j' _ hj, ← hk'.ver] at hrj he
          rw [hs'.inj i' j' b0 b0' hb0 hb0' hri hrj he]
        · have hi := (List.getElem?_eq_some_iff.1 hb0).1
          rw [hβ2 i' _ hi, ← hk.ver] at hri he
          rw [hβ2r j _ hjI hlt'] at hrj he
          exact absurd he (mixed hb0 hri hjI hb1' hrj)
        · have hj := (List.getElem?_eq_some_iff.1 hb0').1
          rw [hβ2 j' _ hj, ← hk'.ver] at hrj he
          rw [hβ2r i _ hiI hlt] at hri he
          exact absurd he.symm (mixed hb0' hrj hiI hb1 hri)
        · rw [hβ2r i _ hiI hlt] at hri he
          rw [hβ2r j _ hjI hlt'] at hrj he
          exact hw.inj i j b b' hb1 hb1' hri hrj he
      · rcases hcase i b hb with ⟨j, b0, rfl, hb0, hk⟩ | ⟨hiI, hlt, hb1⟩
        · have hj := (List.getElem?_eq_some_iff.1 hb0).1
          rw [hβ2 j _ hj, ← hk.ver] at hr0 ⊢
          exact hs'.apart j b0 hb0 hr0
        · rw [hβ2r i _ hiI hlt] at hr0 ⊢
          cases hK : K' (β i b.ver).blk with
          | none => rfl
          | some c =>
            rcases hX.kx.new _ _ hK with h1 | h1 | h1
            · rw [hw.apart i b hb1 hr0] at h1; cases h1
            · have := hw.lt hb1 hr0
              have h1' : w.heap.size ≤ (β i b.ver).blk := h1
              omega
            · exact absurd h1 (hnotg i b hiI hb1 hr0)
      · rcases hcase i b hb with ⟨j, b0, rfl, hb0, hk⟩ | ⟨hiI, hlt, hb1⟩
        · have hj := (List.getElem?_eq_some_iff.1 hb0).1
          rw [hβ2 j _ hj, ← hk.ver] at hr0 ⊢
          rcases hs'.base j b0 hb0 hr0 with h1 | h1
          · exact .inl h1
          · exact .inr (hgive _ h1)
        · rw [hβ2r i _ hiI hlt] at hr0 ⊢
          exact .inr ⟨i, b, hb1, hr0, rfl⟩
    have hXN : Ext (given K β H w) K β H K' β2' (putI H I Bs' ++ News) := ⟨hX.kx.mono fun k hk => hk.imp id (hgive k), hagr, hle⟩
    rcases hends with ⟨rfl, rfl⟩ | ⟨rfl, rfl⟩
    · cases hoR with
      | @ret c d hd => exact ⟨v, d, K', β2', _, hXN, hwsN, hdr.ren hβ2 hd hok, OkD.ren hokV' hd hok, .inl ⟨rfl, hQ'⟩⟩
    · cases hoR with
      | @pan c d hd => exact ⟨v, d, K', β2', _, hXN, hwsN, hdr.ren hβ2 hd hok, OkD.ren hokV' hd hok, .inr ⟨rfl, hQ'⟩⟩
theorem FunM.frame' {P : Program} {f : FuncId} {ds0 ds : List D} {H0 H : Heap} {Q Q' : DOut → Heap → Prop} (I : List Nat) (Bs : List (Option Blk)) (h : FunM P f ds0 H0 Q) (hI : I.Nodup) (hP : Picks H I Bs) (hr : All2 (RenB (rho I H.length)) H0 Bs) (hds : All2 (Ren (rho I H.length)) ds0 ds)
    (hQ : ∀ o0 H0', Q o0 H0' → ∃ o Bs' News, Bs'.length = I.length ∧ All2 (RenB (rho I H.length)) H0' (Bs' ++ News) ∧ ORen (rho I H.length) o0 o ∧ Q' o (putI H I Bs' ++ News)) : FunM P f ds H Q' :=
  fun K β w vs hw hl hv ho => frameAt (T := fun as_ w R => Calls P f as_ w R) (fun h hr => h.mono hr) I Bs (fun β1 _ => h K β1 w vs) hI hP hr hds hQ hw hl hv ho
/-- The same where one outcome is known. -/
theorem FunM.frame {P : Program} {f : FuncId} {ds0 ds : List D} {H0 H H0' H' : Heap} {d0 d : D} (I : List Nat) (Bs Bs' News : List (Option Blk)) (h : FunM P f ds0 H0 fun o H' => o = .ret d0 ∧ H' = H0') (hI : I.Nodup) (hP : Picks H I Bs) (hr : All2 (RenB (rho I H.length)) H0 Bs) (hds : All2 (Ren (rho I H.length)) ds0 ds)
    (hl : Bs'.length = I.length) (hr' : All2 (RenB (rho I H.length)) H0' (Bs' ++ News)) (hd : Ren (rho I H.length) d0 d) (hH : putI H I Bs' ++ News = H') : FunM P f ds H fun o H'' => o = .ret d ∧ H'' = H' :=
  h.frame' I Bs hI hP hr hds fun o0 H1 ⟨e1, e2⟩ => ⟨.ret d, Bs', News, hl, by rw [e2]; exact hr', by rw [e1]; exact .ret hd, rfl, hH⟩
end Go.DL
namespace Go.DL
open Go.RowKit

abbrev Bo (b : Bool) : D := .v (.bool b)
theorem gdT {G : Bool} {d : D} (h : G = true) : gd G d = d := by rw [h]; rfl
theorem gdS {G x : Bool} {d : D} (h : G = true) : gd (G && x) d = gd x d := by rw [h]; rfl
section
variable {P : Program} {C : Ctx} {N : Nat} {ops : Array Oper} {rest : List Oper} {o : Oper} {s : St} {F : DX → St → Prop}
/-- An operation behind a guard that nothing guards. -/
theorem RG.opg1 (b : Bool) (j : Nat) (want : Bool) (t : Nat) (d : D) (hg : o.guard = some (j, want)) (ht : (ops[j]?).bind (·.dst) = some t) (hlt : Nat.blt t N = true) (hb : s.env t = .v (.bool b)) (hf : fits N o = true)
    (h : (b == want) = true → OpD P C o s.env s.H d s.H) (hr : RG P C N ops rest ⟨updO s.env o.dst (gd (b == want) d), s.H⟩ F) : RG P C N ops (o :: rest) s F :=
  RG.opg b j want t d hg ht hlt hb hf (fun e => h (by rw [e]; simp)) hr
theorem gd_yield {K : Mem} {β : Nat → Nat → BT} {a : Act} {t j : Nat} {G p want : Bool} (hg : o.guard = some (j, want)) (ht : (ops[j]?).bind (·.dst) = some t) (hlt : t < a.tmps.size) (hd : DR K β true (a.tmps.getD t undef) (gd G (.v (.bool p)))) : Region.wanted o (yielded ops a.tmps) = (G && (p == want)) := by
  cases G with
  | true =>
    have hy : yielded ops a.tmps j = some p := yielded_of ht hlt hd
    simp only [Region.wanted, hg, hy]
    cases p <;> cases want <;> rfl
  | false =>
    have e : a.tmps.getD t undef = undef := hd.v_inv
    have hy : yielded ops a.tmps j = none := by
      unfold yielded
      rw [ht]
      have e' : a.tmps[t]? = some undef := by
        rw [Array.getElem?_eq_getElem hlt]
        rw [Array.getD_eq_getD_getElem?, Array.getElem?_eq_getElem hlt] at e
        simpa using e
      simp [e', undef]
    simp only [Region.wanted, hg, hy]
    cases want <;> rfl
/-- An operation behind a guard that is itself behind one. -/
theorem RG.opg2 (G p : Bool) (j : Nat) (want : Bool) (t : Nat) (d : D) (hg : o.guard = some (j, want)) (ht : (ops[j]?).bind (·.dst) = some t) (hlt : Nat.blt t N = true) (hb : s.env t = gd G (.v (.bool p))) (hf : fits N o = true)
    (h : (G && (p == want)) = true → OpD P C o s.env s.H d s.H) (hr : RG P C N ops rest ⟨updO s.env o.dst (gd (G && (p == want)) d), s.H⟩ F) : RG P C N ops (o :: rest) s F := by
  intro K β a w Q hs hq
  refine listW_step fun Kc hK => ?_
  rw [gd_yield hg ht (by rw [hs.size]; simpa [Nat.blt_eq] using hlt) (hb ▸ hs.rd t)]
  cases hbw : (G && (p == want)) with
  | true =>
    simp only [if_true]
    rw [hbw] at hr
    refine (h hbw).go K β a w Kc Q hs.ws (fun x _ => hs.ev x) (fun x _ => hs.evok x) fun K' β' v w' hx hβ hw hv ho => hK _ _ ?_
    exact hr K' β' _ w' Q (hs.put hx.le hβ hw (HLe.refl _) hv ho hf) fun e a' w'' hA => hq _ _ _ (hA.mono ⟨hx, hβ, HLe.refl _⟩ fun _ _ h => h)
  | false =>
    simp only [Bool.false_eq_true, if_false]
    rw [hbw] at hr
    exact hK _ _ (hr K β _ w Q (hs.put (Mem.le.refl K) (Agr.refl _ _) hs.ws (HLe.refl _) (.v _ _) (.v _) hf) fun e a' w'' hA => hq _ _ _ hA)
/-- A call of which one outcome is known. -/
theorem RG.opM (d : D) (H' : Heap) (hg : o.guard = none) (hf : fits N o = true) (h : OpX P C o s.env s.H fun x H'' => x = .ret d ∧ H'' = H') (hr : RG P C N ops rest ⟨updO s.env o.dst d, H'⟩ F) : RG P C N ops (o :: rest) s F :=
  RG.opX _ hg hf h (by rintro _ _ ⟨⟨⟩, rfl⟩; exact hr) (by rintro _ _ ⟨h, _⟩; cases h)
end
section
variable {P : Program} {C : Ctx} {N : Nat} {ops : Array Oper} {Hs : Heap → Prop} {i : Nat} {o : Oper} {rest : List Oper} {env : Nat → D} {H H1 : Heap} {F : List (D × Bool × Heap) → (Nat → D) → Heap → Prop} {d : D}
theorem PG.opg1 (d : D) (b : Bool) (j : Nat) (want : Bool) (t : Nat) (ho : ops[i]? = some o) (hg : o.guard = some (j, want)) (ht : (ops[j]?).bind (·.dst) = some t) (hlt : Nat.blt t N = true) (hb : env t = .v (.bool b)) (hf : fits N o = true)
    (h : (b == want) = true → ∀ H, Hs H → OpD P C o env H d H) (r : PG P C N ops Hs (i + 1) rest (updO env o.dst (gd (b == want) d)) H fun l e h => F ((gd (b == want) d, false, H) :: l) e h) : PG P C N ops Hs i (o :: rest) env H F :=
  PG.opg d b j want t ho hg ht hlt hb hf (fun e => h (by rw [e]; simp)) r
end

/-! ### Loops whose blocks are those at the entry, but for some -/
def updH (H : Heap) : List (Nat × Option Blk) → Heap
  | [] => H
  | (k, b) :: l => (updH H l).set k b
theorem WC.loopU {P : Program} {C : Ctx} {N : Nat} {s : St} {Q : DX → St → Prop} {c : Code} {G : Type} (W : List Nat) (A : G → List (Nat × D)) (U : G → List (Nat × Option Blk)) (I : G → Prop) (m : G → Nat) (g0 : G) (hI : I g0) (h0 : Head s.H s.env W (A g0) (updH s.H (U g0)) s)
    (round : ∀ g, I g → WC P C N c ⟨updL (forget W s.env) (A g), updH s.H (U g)⟩ (thenQ (fun s' => ∃ g', I g' ∧ m g' < m g ∧ Head s.H s.env W (A g') (updH s.H (U g')) s') Q)) : WC P C N (.loop c) s Q :=
  WC.loop W A (fun g => updH s.H (U g)) I m g0 hI h0 round
/-- Where ways meet. -/
theorem WC.joinU {P : Program} {C : Ctx} {N : Nat} {s : St} {Q : DX → St → Prop} {x y : Code} {G : Type} (W : List Nat) (A : G → List (Nat × D)) (U : G → List (Nat × Option Blk)) (I : G → Prop) (hx : WC P C N x s (thenQ (fun s' => ∃ g, I g ∧ Head s.H s.env W (A g) (updH s.H (U g)) s') Q))
    (hy : ∀ g, I g → WC P C N y ⟨updL (forget W s.env) (A g), updH s.H (U g)⟩ Q) : WC P C N (.seq x y) s Q :=
  WC.join W A (fun g => updH s.H (U g)) I hx hy

/-! ### What is pure -/
theorem pu_nil : ∀ c ∈ ([] : List D), Pure' c := by simp
theorem pu_cons {d : D} {l : List D} (h : Pure' d) (hl : ∀ c ∈ l, Pure' c) : ∀ c ∈ d :: l, Pure' c := fun c hc => by
  rcases List.mem_cons.1 hc with rfl | hc
  · exact h
  · exact hl c hc
theorem pu_app {l m : List D} (hl : ∀ c ∈ l, Pure' c) (hm : ∀ c ∈ m, Pure' c) : ∀ c ∈ l ++ m, Pure' c := fun c hc => by
  rcases List.mem_append.1 hc with hc | hc
  · exact hl c hc
  · exact hm c hc
theorem pu_bytes (l : List UInt8) : ∀ c ∈ bytesD l, Pure' c := fun c hc => by
  obtain ⟨b, _, rfl⟩ := List.mem_map.1 hc
  exact .v _
theorem pu_map {α : Type} {g : α → D} (h : ∀ a, Pure' (g a)) (l : List α) : ∀ c ∈ l.map g, Pure' c := fun c hc => by
  obtain ⟨b, _, rfl⟩ := List.mem_map.1 hc
  exact h b
theorem pu_flatMap {α : Type} {f : α → List D} (h : ∀ a, ∀ c ∈ f a, Pure' c) (l : List α) : ∀ c ∈ l.flatMap f, Pure' c := fun c hc => by
  obtain ⟨b, _, hb⟩ := List.mem_flatMap.1 hc
  exact h b c hb
theorem pu_vs {cs : List D} (h : cs.all isV = true) : ∀ d ∈ cs, Pure' d := allV h
theorem one_nil : ∀ c ∈ ([] : List D), oneD c = true := by simp
theorem one_cons {d : D} {l : List D} (h : oneD d = true) (hl : ∀ c ∈ l, oneD c = true) : ∀ c ∈ d :: l, oneD c = true := fun c hc => by
  rcases List.mem_cons.1 hc with rfl | hc
  · exact h
  · exact hl c hc
theorem okp {H : Heap} {l : List D} (h : ∀ c ∈ l, Pure' c) : ∀ c ∈ l, OkD H c := fun c hc => (h c hc).ok H
theorem Frz.pure' {H : Heap} {d : D} (h : Pure' d) : Frz H d d := by
  induction h with
  | any => exact .any
  | v x => exact .v x
  | rd n cs => exact .rd n cs
  | adr cs => exact .adr cs
  | agg cs _ ih => exact .agg cs cs rfl fun j c d hc hd => by rw [hc] at hd; cases hd; exact ih c (List.mem_of_getElem? hc)
  | tup cs _ ih => exact .tup cs cs rfl fun j c d hc hd => by rw [hc] at hd; cases hd; exact ih c (List.mem_of_getElem? hc)
  | fn f cs _ ih => exact .fn f cs cs rfl fun j c d hc hd => by rw [hc] at hd; cases hd; exact ih c (List.mem_of_getElem? hc)
  | iface t d _ ih => exact .iface t d d ih
  | mp ks cs => exact .mp ks cs
/-- A row of the call's own whose cells are pure. -/
theorem Frz.row {H : Heap} {id ver n sz : Nat} {b : Blk} (hb : H[id]? = some (some b)) (hv : b.ver = ver) (hp : ∀ c ∈ b.cs, Pure' c) : Frz H (.own id ver 0 n sz) (.rd n b.cs) := by
  subst hv
  refine .own id 0 n sz b b.cs hb (by omega) fun j c d hc hd => ?_
  rw [Nat.zero_add, hd] at hc
  have e : d = c := by simpa using hc
  subst e
  exact .pure' (hp d (List.mem_of_getElem? hd))
theorem Frz.tb {H : Heap} {id n sz : Nat} {e : TypeId} {cs : List D} (hb : H[id]? = some (tb e n cs)) (hp : ∀ c ∈ cs, Pure' c) : Frz H (ow id n sz) (.rd n cs) := Frz.row hb rfl hp
/-- A map of the call's own whose values are pure. -/
theorem Frz.map {H : Heap} {id : Nat} {b : Blk} (ks : List Value) (ds : List D) (hb : H[id]? = some (some b)) (hv : b.ver = 0) (hcs : b.cs = (ks.zip ds).map fun p => .tup [.v p.1, p.2]) (hl : ks.length = ds.length) (hp : ∀ c ∈ ds, Pure' c) : Frz H (.omp id 0) (.mp ks ds) := by
  rw [← hv]
  have hlen : b.cs.length = ds.length := by rw [hcs]; simp [hl]
  refine .omp id b ks ds hb hlen hl (fun j c hc => ?_) fun j k c d hc hd => ?_
  · rw [hcs, List.getElem?_map] at hc
    cases hz : (ks.zip ds)[j]? with
    | none => rw [hz] at hc; cases hc
    | some p =>
      rw [hz] at hc
      have := List.getElem?_zip_eq_some.1 hz
      exact ⟨p.1, p.2, by simpa using hc.symm, this.1⟩
  · rw [hcs, List.getElem?_map] at hc
    cases hz : (ks.zip ds)[j]? with
    | none => rw [hz] at hc; cases hc
    | some p =>
      rw [hz] at hc
      have h2 := (List.getElem?_zip_eq_some.1 hz).2
      rw [hd] at h2
      simp at hc
      obtain ⟨rfl, rfl⟩ := hc
      have e : d = p.2 := by simpa using h2
      subst e
      exact .pure' (hp _ (List.mem_of_getElem? hd))
/-- Read through nil: where a slice is wanted. -/
theorem Frz.nilr {H : Heap} : Frz H (.v (.slice none 0 0)) (.rd 0 []) := .nilv
end Go.DL
namespace Go.DL
open Go.RowKit

/-- A value: its kind, its number, its text. -/
structure Val where
  k : UInt8
  i : Int
  t : List UInt8
  deriving DecidableEq, Inhabited
def vc (v : Val) : List D := [B8 v.k, I64 v.i, S v.t]
theorem vc_len (v : Val) : (vc v).length = 3 := rfl
abbrev VD (v : Val) : D := .agg (vc v)
abbrev rdV (l : List Val) : D := .rd l.length (l.flatMap vc)
abbrev rdI (l : List Int) : D := .rd l.length (l.map I64)
theorem pu_vals (l : List Val) : ∀ c ∈ l.flatMap vc, Pure' c := pu_flatMap (fun _ => pu_vs rfl) l
theorem zeros_len (zv : Value) (n sz : Nat) : (zeros zv n sz).length = n := by simp [zeros]
theorem Frz1.rowE {id ver n m sz : Nat} {b : Blk} {ds : List D} (hv : b.ver = ver) (hn : n = m) (h : b.cs = ds) : Frz1 id b (.own id ver 0 n sz) (.rd m ds) := by
  subst hv hn h
  exact .own 0 n sz _ (by simp)
theorem ow_eq {i a b s : Nat} (h : a = b) : ow i a s = ow i b s := by rw [h]
theorem tb_eq {e : TypeId} {n n' : Nat} {cs cs' : List D} (hn : n = n') (hc : cs = cs') : tb e n cs = tb e n' cs' := by rw [hn, hc]
theorem rd_eq {n n' : Nat} {cs cs' : List D} (hn : n = n') (hc : cs = cs') : D.rd n cs = .rd n' cs' := by rw [hn, hc]

section
variable {P : Program} {C : Ctx} {env : Nat → D} {H H' : Heap} {dst : Option Nat} {ty t t' e : TypeId} {pos : String} {after : Array Edge} {gu : Option (Nat × Bool)} {X Y Z : Operand} {td : TypeDesc}
theorem eqV_of (k k' : UInt8) (i i' : Int) (s s' : List UInt8) : eqDs [B8 k, I64 i, S s] [B8 k', I64 i', S s'] = decide ((⟨k, i, s⟩ : Val) = ⟨k', i', s'⟩) := by
  rw [Bool.eq_iff_iff]
  simp only [eqDs, eq1, strB_list, Bool.and_eq_true, beq_iff_eq, decide_eq_true_eq, Val.mk.injEq, and_true]
  rw [Int.natCast_inj, UInt8.toNat_inj]
theorem o_eqV {k k' : UInt8} {i i' : Int} {s s' : List UInt8} (F : FlatS P t [.int .u8, .int .i64, .string]) (hx : ev env X = .agg [B8 k, I64 i, S s]) (hy : ev env Y = .agg [B8 k', I64 i', S s']) : OpD P C ⟨dst, .binOp .eql t X Y t', ty, pos, after, gu⟩ env H (Bo (decide ((⟨k, i, s⟩ : Val) = ⟨k', i', s'⟩))) H :=
  (o_eqS F hx hy rfl).cast (v_bool (eqV_of ..))
/-- A slice written out, that nobody changes. -/
theorem o_litP {zv : Value} {sz len bytes : Nat} {ps : List (Nat × Operand)} {cs : List D} (ht : P.underlying t = some (.slice e)) (hi : (P.info? e).map (fun i => (i.zero, i.size, i.bytes)) = some (some zv, sz, bytes)) (hz : zv.cells.size = sz) (hlen : Nat.ble (len * sz) 16777216 = true)
    (hp : litOK env sz (len * sz) ps = true) (hcs : ps.foldl (fun c p => spl c (p.1 * sz) (cellsD (ev env p.2))) ((zeros zv (len * sz) sz).map D.v) = cs) (hpure : ∀ d ∈ cs, Pure' d) : OpD P C ⟨dst, .buildSlice t len ps.toArray, ty, pos, after, gu⟩ env H (.rd len cs) H :=
  o_lit_rd ht hi hz (Nat.le_of_ble_eq_true hlen) (litOK.at hp) hcs hpure

/-- A row copied whole over a row of as_ many places. -/
theorem o_copyA {id ver n m : Nat} {cs' : List D} {b : Blk} (hx : ev env X = .own id ver 0 n 1) (hy : ev env Y = .rd m cs') (ht : P.underlying t = some (.slice e)) (hi : (P.info? e).map (·.size) = some 1) (hb : H[id]? = some (some b)) (hv : b.ver = ver) (hm : cs'.length = m) (hnm : n = m) (hn : b.cs.length = n) (h1 : ∀ d ∈ cs', oneD d = true) :
    OpD P C ⟨dst, .call { callee := .builtin .copy, args := #[X, Y], argTypes := #[t, t'] }, ty, pos, after, gu⟩ env H (I64 (m : Nat)) (H.set id (some { b with cs := cs' })) := by
  subst hnm hm
  have h := o_copy (P := P) (C := C) (dst := dst) (ty := ty) (pos := pos) (after := after) (gu := gu) (t' := t') cs'.length hx hy ht hi hb hv rfl (Nat.min_self _) (by omega) h1
  rwa [List.take_of_length_le (Nat.le_refl _), spl_all _ _ hn.symm] at h

/-- The place of an element that is there where the operation is done: told for all numbers. -/
theorem o_ixn_LZ {α : Type} (z : α) {l : List α} {f : α → List D} {sz : Nat} {k : IntKind} {i : Int} (n : Nat) (hf : ∀ a, (f a).length = sz) (hp : Nat.blt 0 sz = true) (hx : ev env X = .rd l.length (l.flatMap f)) (hy : ev env Y = .v (.int k i)) (ht : P.underlying t = some (.slice e)) (hi : (P.info? e).map (·.size) = some sz) (hn : i = n) (h : n < l.length) :
    OpD P C ⟨dst, .indexAddr t X Y, ty, pos, after, gu⟩ env H (.adr (f (l.getD n z) ++ (l.drop (n + 1)).flatMap f)) H :=
  (o_ixn_L n hf hp hx hy ht hi hn h).cast (by simp [List.getD, h])
/-! ### Cuts of rows that stay -/
theorem o_dropM {α : Type} {l : List α} {g : α → D} {k : IntKind} {i : Int} (n : Nat) {y : Operand} (hx : ev env X = .rd l.length (l.map g)) (hy : ev env y = .v (.int k i)) (ht : P.underlying t = some (.slice e)) (hi : (P.info? e).map (·.size) = some 1) (hn : i = n) (h : n ≤ l.length) :
    OpD P C ⟨dst, .slice t X (some y) none none, ty, pos, after, gu⟩ env H (.rd (l.drop n).length ((l.drop n).map g)) H := by
  subst hn
  have := o_cut_rd (P := P) (C := C) (H := H) (dst := dst) (ty := ty) (pos := pos) (after := after) (gu := gu) (lo := n) (hi := l.length) (cs' := (l.drop n).map g) (yl := some y) (yh := none) hx ⟨k, hy⟩ rfl ht hi h (Nat.le_refl _) (by simp [List.map_drop, List.take_of_length_le])
  exact this.cast (by congr 1; simp only [List.length_take, List.length_drop]; try omega)
theorem o_partM {α : Type} {l : List α} {g : α → D} {k k' : IntKind} {i i' : Int} (n m : Nat) {y z : Operand} (hx : ev env X = .rd l.length (l.map g)) (hy : ev env y = .v (.int k i)) (hz : ev env z = .v (.int k' i')) (ht : P.underlying t = some (.slice e)) (hi : (P.info? e).map (·.size) = some 1) (hn : i = n) (hm : i' = m) (h1 : n ≤ m) (h : m ≤ l.length) :
    OpD P C ⟨dst, .slice t X (some y) (some z) none, ty, pos, after, gu⟩ env H (.rd ((l.drop n).take (m - n)).length (((l.drop n).take (m - n)).map g)) H := by
  subst hn hm
  have := o_cut_rd (P := P) (C := C) (H := H) (dst := dst) (ty := ty) (pos := pos) (after := after) (gu := gu) (lo := n) (hi := m) (cs' := ((l.drop n).take (m - n)).map g) (yl := some y) (yh := some z) hx ⟨k, hy⟩ ⟨k', hz⟩ ht hi h1 h (by simp [List.map_drop, List.map_take])
  exact this.cast (by congr 1; simp only [List.length_take, List.length_drop]; try omega)
theorem flatMap_take {α : Type} {f : α → List D} {sz : Nat} (hf : ∀ a, (f a).length = sz) : ∀ (l : List α) (n : Nat), (l.flatMap f).take (n * sz) = (l.take n).flatMap f
  | [], n => by simp
  | a :: l, 0 => by simp
  | a :: l, n + 1 => by
    rw [List.flatMap_cons, List.take_succ_cons, List.flatMap_cons, Nat.succ_mul, Nat.add_comm, List.take_append, hf a]
    rw [List.take_of_length_le (by rw [hf]; omega), Nat.add_sub_cancel_left, flatMap_take hf l n]
theorem o_takeL {α : Type} {l : List α} {f : α → List D} {sz : Nat} {k : IntKind} {i : Int} (n : Nat) (hf : ∀ a, (f a).length = sz) {y : Operand} (hx : ev env X = .rd l.length (l.flatMap f)) (hy : ev env y = .v (.int k i)) (ht : P.underlying t = some (.slice e)) (hi : (P.info? e).map (·.size) = some sz) (hn : i = n) (h : n ≤ l.length) :
    OpD P C ⟨dst, .slice t X none (some y) none, ty, pos, after, gu⟩ env H (.rd (l.take n).length ((l.take n).flatMap f)) H := by
  subst hn
  have := o_cut_rd (P := P) (C := C) (H := H) (dst := dst) (ty := ty) (pos := pos) (after := after) (gu := gu) (lo := 0) (hi := n) (cs' := (l.take n).flatMap f) (yl := none) (yh := some y) hx rfl ⟨k, hy⟩ ht hi (Nat.zero_le _) h (by rw [Nat.zero_mul, List.drop_zero, Nat.sub_zero, flatMap_take hf])
  exact this.cast (by congr 1; simp only [List.length_take, List.length_drop]; try omega)
theorem o_dropL {α : Type} {l : List α} {f : α → List D} {sz : Nat} {k : IntKind} {i : Int} (n : Nat) (hf : ∀ a, (f a).length = sz) {y : Operand} (hx : ev env X = .rd l.length (l.flatMap f)) (hy : ev env y = .v (.int k i)) (ht : P.underlying t = some (.slice e)) (hi : (P.info? e).map (·.size) = some sz) (hn : i = n) (h : n ≤ l.length) :
    OpD P C ⟨dst, .slice t X (some y) none none, ty, pos, after, gu⟩ env H (.rd (l.drop n).length ((l.drop n).flatMap f)) H := by
  subst hn
  have := o_cut_rd (P := P) (C := C) (H := H) (dst := dst) (ty := ty) (pos := pos) (after := after) (gu := gu) (lo := n) (hi := l.length) (cs' := (l.drop n).flatMap f) (yl := some y) (yh := none) hx ⟨k, hy⟩ rfl ht hi h (Nat.le_refl _) (by rw [flatMap_drop hf, List.take_of_length_le (by rw [flatMap_len hf, List.length_drop]; exact Nat.le_refl _)])
  exact this.cast (by congr 1; simp only [List.length_take, List.length_drop]; try omega)
/-! ### Parts of structs; interfaces; negation -/
end
end Go.DL
namespace Go.DL
open Go.RowKit
section
variable {P : Program} {C : Ctx} {env : Nat → D} {H H' : Heap} {dst : Option Nat} {ty t t' e : TypeId} {pos : String} {after : Array Edge} {gu : Option (Nat × Bool)} {X Y Z : Operand} {td : TypeDesc}
theorem ofIntB (b : UInt8) : (BitVec.ofInt 8 (b.toNat : Int)).toNat = b.toNat := by rw [BitVec.ofInt_natCast, BitVec.toNat_ofNat, Nat.mod_eq_of_lt b.toNat_lt]
theorem bitsB {op : BitVec 8 → BitVec 8 → BitVec 8} {f : Nat → Nat → Nat} (hf : ∀ x y : BitVec 8, (op x y).toNat = f x.toNat y.toNat) {a b c : UInt8} (hc : c.toNat = f a.toNat b.toNat) :
    IntKind.u8.wrap ((op (BitVec.ofInt 8 (a.toNat : Int)) (BitVec.ofInt 8 (b.toNat : Int))).toNat : Int) = (c.toNat : Int) := by
  have := c.toNat_lt
  rw [hf, ofIntB, ofIntB, ← hc, IntKind.wrap_u8]; omega
theorem o_orB {a b : UInt8} (hx : ev env X = B8 a) (hy : ev env Y = B8 b) : OpD P C ⟨dst, .binOp .or t X Y t', ty, pos, after, gu⟩ env H (B8 (a ||| b)) H :=
  (o_bin (.int .u8 (IntKind.u8.wrap ((BitVec.ofInt 8 (a.toNat : Int) ||| BitVec.ofInt 8 (b.toNat : Int)).toNat : Int))) hx hy rfl).cast (v_int (bitsB (fun _ _ => BitVec.toNat_or _ _) (UInt8.toNat_or _ _)))
theorem o_andB {a b : UInt8} (hx : ev env X = B8 a) (hy : ev env Y = B8 b) : OpD P C ⟨dst, .binOp .and t X Y t', ty, pos, after, gu⟩ env H (B8 (a &&& b)) H :=
  (o_bin (.int .u8 (IntKind.u8.wrap ((BitVec.ofInt 8 (a.toNat : Int) &&& BitVec.ofInt 8 (b.toNat : Int)).toNat : Int))) hx hy rfl).cast (v_int (bitsB (fun _ _ => BitVec.toNat_and _ _) (UInt8.toNat_and _ _)))
end
end Go.DL
namespace Go.DL
open Go.RowKit

/-! ### Operations on exact values -/
/-! ### Cuts of rows of the call's own; strings of parts of them -/
/-! ### Appends, whatever is appended -/
section
variable {P : Program} {C : Ctx} {env : Nat → D} {H : Heap} {dst : Option Nat} {ty t t' e : TypeId} {pos : String} {after : Array Edge} {gu : Option (Nat × Bool)} {X Y : Operand}
/-- What is appended: so many elements, these cells. -/
def Src (P : Program) (C : Ctx) (t t' ty e : TypeId) (sz bytes : Nat) (H : Heap) (dy : D) (m : Nat) (cs' : List D) : Prop :=
  ∀ K β w x, WS C K β H w → DR K β true x dy → OkD H dy → ∃ news : List Value, news.length = m * sz ∧ news.length = cs'.length ∧ (∀ (j : Nat) u d, news[j]? = some u → cs'[j]? = some d → DR K β true u d) ∧ (∀ d ∈ cs', OkD H d) ∧
    ∀ v n xs, w.ownsRow 0 e sz v n xs → n + m ≤ maxLen → (n + m) * bytes ≤ 140737488355328 → ∃ u' w', (Builtin.append_ #[t, t'] ty #[v, x]).run P w = .ok u' w' ∧ w'.ownsRow 0 e sz u' (n + m) (xs ++ news) ∧ w.grownBy w' v.ownBlock ∧ (u'.ownBlock = v.ownBlock ∨ u'.ownBlock = some w.heap.size)
theorem app_core {v' : Nat} {K : Mem} {β : Nat → Nat → BT} {w : World} {id ver n sz m : Nat} {b : Blk} {cs' : List D} {v x : Value} (hw : WS C K β H w) (hv : DR K β true v (.own id ver 0 n sz)) (hb : H[id]? = some (some b)) (hver : b.ver = ver) (hv' : ver < v') (hn : n * sz ≤ b.cs.length)
    (news : List Value) (hl : news.length = m * sz) (hds : news.length = cs'.length) (hdr : ∀ (j : Nat) u d, news[j]? = some u → cs'[j]? = some d → DR K β true u d) (hok : ∀ d ∈ cs', OkD H d)
    (hrunX : ∀ xs, w.ownsRow 0 b.e sz v n xs → ∃ u' w', (Builtin.append_ #[t, t'] ty #[v, x]).run P w = .ok u' w' ∧ w'.ownsRow 0 b.e sz u' (n + m) (xs ++ news) ∧ w.grownBy w' v.ownBlock ∧ (u'.ownBlock = v.ownBlock ∨ u'.ownBlock = some w.heap.size)) :
    ∃ u' w' t1, (Builtin.append_ #[t, t'] ty #[v, x]).run P w = .ok u' w' ∧ WS C K (addB β id v' t1) (H.set id (some ⟨b.cs.take (n * sz) ++ cs', b.e, true, v'⟩)) w' ∧ DR K (addB β id v' t1) true u' (.own id v' 0 (n + m) sz) := by
  subst hver
  have hrows : ∃ xs : List Value, w.ownsRow 0 b.e sz v n xs ∧ xs.length = n * sz ∧ (∀ (j : Nat) u d, xs[j]? = some u → (b.cs.take (n * sz))[j]? = some d → DR K β true u d) ∧ (∀ k, v.ownBlock = some k → (β id b.ver).real = true ∧ k = (β id b.ver).blk) := by
    rcases hv.own_inv with ⟨c, rfl, hnc, hm, htot, hr⟩ | ⟨rfl, _, h0, hr⟩
    · obtain ⟨us, rest, hh, hlen, htot', _, hd⟩ := hw.real hb hr
      refine ⟨us.take (n * sz), ⟨by rw [List.length_take]; omega, .inr ⟨_, c, _, rfl, Nat.zero_le _, hh, hnc, hm, by simp; omega, ?_⟩⟩, by rw [List.length_take]; omega, fun j u d hu hd' => ?_, fun k hk => ?_⟩
      · simp only []
        rw [List.take_append_of_le_length (by omega)]
      · rw [List.getElem?_take] at hu hd'
        split at hu
        · rw [if_pos (by assumption)] at hd'; exact hd j u d hu hd'
        · cases hu
      · simp [Value.ownBlock] at hk; exact ⟨BT.real_of hr, hk.symm⟩
    · subst h0
      exact ⟨[], ⟨by simp, .inl ⟨rfl, rfl⟩⟩, by simp, by simp, fun k hk => by simp [Value.ownBlock] at hk⟩
  obtain ⟨xs, hown, hxl, hxd, hblk⟩ := hrows
  obtain ⟨u', w', hrun, hown', hgrow, hat⟩ := hrunX xs hown
  have hcells : (xs ++ news).length = (b.cs.take (n * sz) ++ cs').length := by rw [List.length_append, List.length_append, List.length_take]; omega
  have hcd : ∀ (j : Nat) u d, (xs ++ news)[j]? = some u → (b.cs.take (n * sz) ++ cs')[j]? = some d → DR K β true u d := by
    intro j u d hu hd
    have hlt : (b.cs.take (n * sz)).length = n * sz := by rw [List.length_take]; omega
    by_cases hj : j < n * sz
    · rw [List.getElem?_append_left (by omega)] at hu hd; exact hxd j u d hu hd
    · rw [List.getElem?_append_right (by omega), hxl] at hu
      rw [List.getElem?_append_right (by omega), hlt] at hd
      exact hdr _ u d hu hd
  have hoc : ∀ d ∈ b.cs.take (n * sz) ++ cs', OkD H d := by
    intro d hd
    rcases List.mem_append.1 hd with hd | hd
    · exact hw.ok id b hb d (List.mem_of_mem_take hd)
    · exact hok d hd
  rcases hown'.2 with ⟨rfl, h0⟩ | ⟨g, cap, cur, rfl, hBg, hheap, hncap, hmax, hcur, htake⟩
  · have hn0 : n = 0 := by omega
    have hm0 : m = 0 := by omega
    subst hn0 hm0
    have hcs0 : cs' = [] := List.eq_nil_of_length_eq_zero (by rw [← hds, hl]; simp)
    subst hcs0
    refine ⟨_, w', ⟨0, 0, .none⟩, hrun, ?_, ?_⟩
    · exact hw.grow hb hv' hgrow hblk _ ⟨0, 0, .none⟩ (.inl ⟨rfl, by simp⟩) hoc
    · exact .own0 _ _ _ (by rw [addB_at])
  · refine ⟨_, w', ⟨g, cap * sz, .cells⟩, hrun, ?_, ?_⟩
    · refine hw.grow hb hv' hgrow hblk _ ⟨g, cap * sz, .cells⟩ (.inr ⟨rfl, ?_, xs ++ news, cur.toList.drop ((n + m) * sz), ?_, hcells, ?_, hcd⟩) hoc
      · rcases hat with h | h
        · exact .inl (by rw [← h]; rfl)
        · simp [Value.ownBlock] at h; exact .inr h
      · rw [hheap, ← htake, List.take_append_drop]
      · have h5 : (n + m) * sz ≤ cap * sz := Nat.mul_le_mul_right _ hncap
        rw [← htake, List.length_take, List.length_drop, Array.length_toList, hcur]
        show min ((n + m) * sz) (cap * sz) + (cap * sz - (n + m) * sz) = cap * sz
        generalize (n + m) * sz = p at *
        generalize cap * sz = q at *
        omega
    · have := DR.own (K := K) (β := addB β id (v') ⟨g, cap * sz, .cells⟩) id (v') 0 (n + m) sz cap hncap hmax (by rw [addB_at]; simp) (by rw [addB_at])
      rw [addB_at] at this; exact this
/-- An append onto a row of the call's own. -/
theorem o_appG (v' : Nat) {id ver n sz bytes m : Nat} {b : Blk} {cs' : List D} {dy : D} (hx : ev env X = .own id ver 0 n sz) (hy : ev env Y = dy) (hS : Src P C t t' ty e sz bytes H dy m cs') (hb : H[id]? = some (some b)) (hver : b.ver = ver) (he : b.e = e) (hv' : ver < v') (hn : n * sz ≤ b.cs.length)
    (h63 : n + m ≤ 9223372036854775807) (hby : (n + m) * bytes ≤ 140737488355328) :
    OpD P C ⟨dst, .call { callee := .builtin .append, args := #[X, Y], argTypes := #[t, t'] }, ty, pos, after, gu⟩ env H (.own id v' 0 (n + m) sz) (H.set id (some ⟨b.cs.take (n * sz) ++ cs', e, true, v'⟩)) := by
  have hle : HLe H (H.set id (some ⟨b.cs.take (n * sz) ++ cs', e, true, v'⟩)) := HLe.set hb (by simp; omega)
  refine OpD.of hle fun K β ac w hw h hk => ?_
  have hxv := h X (by simp [Op.operands, Call.operands])
  have hyv := h Y (by simp [Op.operands, Call.operands])
  have hyk := hk Y (by simp [Op.operands, Call.operands])
  rw [hx] at hxv; rw [hy] at hyv hyk
  obtain ⟨news, l1, l2, l3, l4, l5⟩ := hS K β w _ hw hyv hyk
  subst he
  obtain ⟨u', w', t1, hrun, hws, hdr⟩ := app_core (P := P) (t := t) (t' := t') (ty := ty) (cs' := cs') hw hxv hb hver hv' hn news l1 l2 l3 l4 (fun xs h1 => l5 _ n xs h1 h63 hby)
  subst hver
  refine ⟨K, _, u', w', ?_, KX.refl _ _, addB_agr' hb hv', hws, hdr, .own _ _ _ _ _ ?_⟩
  · simp only [execOp, resolve, invoke, builtin, Sem.run_bind, Sem.run_pure, Result.andThen_ok, List.map_toArray, List.map_cons, List.map_nil, hrun]
  · unfold okV
    rw [List.getElem?_set, if_pos rfl, if_pos (List.getElem?_eq_some_iff.1 hb).1]
    exact Nat.le_refl _
/-- Bytes of a string, behind a row that is owned: where the new row lies. -/
theorem run_append_str {u : TypeId} {w : World} {i : TypeInfo} (ht : P.underlying t = some (.slice e)) (hu : P.underlying u = some .string) (hi : P.info? e = some i) (hz : i.zero = some (.int .u8 0)) (hsize : i.size = 1) (hby : i.bytes = 1)
    (v : Value) (n : Nat) (xs : List Value) (hown : w.ownsRow 0 e 1 v n xs) (s : ByteArray) (h63 : n + s.size ≤ maxLen) (hbytes : n + s.size ≤ 140737488355328) :
    ∃ v' w', (Builtin.append_ #[t, u] ty #[v, .string s]).run P w = .ok v' w' ∧ w'.ownsRow 0 e 1 v' (n + s.size) (xs ++ Go.Lib.strCells s) ∧ w.grownBy w' v.ownBlock ∧ (v'.ownBlock = v.ownBlock ∨ v'.ownBlock = some w.heap.size) := by
  obtain ⟨v', w', h1, h2, h3, h4⟩ := Go.Lib.run_append_own_string (P := P) w 0 t u ty e i ht hu hi hz hsize hby v n xs hown s h63 hbytes (Nat.zero_le _)
  refine ⟨v', w', h1, h2, h3, ?_⟩
  have hsc := Go.Lib.strCells_length s
  have h63' : ((n + s.size : Nat) : Int) ≤ 9223372036854775807 := by simp only [maxLen] at h63; omega
  rcases hown.2 with ⟨rfl, rfl⟩ | ⟨g, cap, cur, rfl, hbg, hg, hnc, hcm, hcs, htake⟩
  · by_cases hs : s.size = 0
    · have := h4.2 ⟨rfl, hs⟩
      subst this; exact .inl rfl
    · have hn : ¬ (s.size ≤ 0) := by omega
      have h63'' : ¬ (9223372036854775807 < (s.size : Int)) := by omega
      have h48' : ¬ (281474976710656 < Builtin.nextslicecap s.size 0 * i.bytes) := by
        have := growslice_fits (need := s.size) (old := 0) (bytes := i.bytes) (by omega) (by rw [hby]; omega)
        omega
      have hf := Go.Lib.run_firstCells_string (P := P) w.drew i.size s
      have hf0 : (Builtin.firstCells i.size 0 (.slice none 0 0)).run P w.drew = .ok #[] w.drew := rfl
      simp [Builtin.append_, run_underlying ht, run_underlying hu, sizeOf, typeInfo, zeroValue, hi, hz, Builtin.lenOf, hn, hs, h63'', h48', Question.forced, hf, hf0, newRow] at h1
      obtain ⟨rfl, _⟩ := h1
      exact .inr rfl
  · by_cases hroom : n + s.size ≤ cap
    · have hr := Go.Lib.run_append_room_string (P := P) w t u ty e i ht hu hi hsize g n cap cur hg s hroom (by omega)
      rw [hr] at h1; cases h1; exact .inl rfl
    · have hr := Go.Lib.run_append_grow_string (P := P) w t u ty e i _ ht hu hi hz ⟨g, 0, none⟩ n cap xs (by rw [hsize]; exact hown.1) (hown.cells (g := g) rfl) s (by omega) h63' (by
        have := growslice_fits (need := n + s.size) (old := cap) (bytes := i.bytes) (by omega) (by rw [hby]; omega)
        omega)
      rw [hr] at h1; cases h1; exact .inr rfl
theorem src_str {l : List UInt8} (ht : P.underlying t = some (.slice e)) (hu : P.underlying t' = some .string) (hi : (P.info? e).map (fun i => (i.zero, i.size, i.bytes)) = some (some (.int .u8 0), 1, 1)) : Src P C t t' ty e 1 1 H (S l) l.length (bytesD l) := by
  intro K β w x hw hyv _
  obtain ⟨i, hi1, hi2, hi3, hi4⟩ := info_parts hi
  have hx := hyv.v_inv
  subst hx
  refine ⟨Go.Lib.strCells (strB l), by rw [Go.Lib.strCells_length, strB_size, Nat.mul_one], by rw [Go.Lib.strCells_length, strB_size, bytesD_len], fun j u d hu' hd => ?_, bytesD_ok l H, fun v n xs hown h63 hby => ?_⟩
  · simp only [Go.Lib.strCells, bytesD, List.getElem?_map] at hu' hd
    cases hj : l[j]? with
    | none => rw [hj] at hd; cases hd
    | some c =>
      rw [hj] at hd hu'
      simp only [Option.map_some, Option.some.injEq] at hd hu'
      subst hd hu'
      exact .v _ _
  · have := run_append_str (P := P) (ty := ty) (w := w) ht hu hi1 hi2 hi3 hi4 v n xs hown (strB l) (by rw [strB_size]; exact h63) (by rw [strB_size]; omega)
    rw [strB_size] at this
    exact this
end
end Go.DL
namespace Go.DL
open Go.RowKit
section
variable {P : Program} {C : Ctx} {env : Nat → D} {H : Heap} {dst : Option Nat} {ty t t' : TypeId} {pos : String} {after : Array Edge} {gu : Option (Nat × Bool)} {X Y : Operand}
theorem o_neg {a : Int} (hx : ev env X = I64 a) (h1 : -9223372036854775808 ≤ -a) (h2 : -a ≤ 9223372036854775807) : OpD P C ⟨dst, .unOp .neg t X, ty, pos, after, gu⟩ env H (I64 (-a)) H := by
  refine OpD.same fun K β ac w _ h _ => ⟨_, ?_, .v _ _, .v _⟩
  have h0 := h X (by simp [Op.operands])
  rw [hx] at h0
  have e : Op.intArith .sub .i64 0 a = .pure (.int .i64 (-a)) := by
    show Sem.pure (Value.int .i64 (IntKind.i64.wrap (0 - a))) = _
    rw [Int.zero_sub, w64 h1 h2]
  simp [execOp, h0.v_inv]
  simp [Op.unary, e]
end
end Go.DL
namespace Go.Proofs.Ytpdjcfhmdeeikaa
open Go.RowKit Go.DL

def enc (v : Nat) : List Nat := if v < 128 then [v] else (v % 128 + 128) :: enc (v / 128)
  termination_by v
  decreasing_by omega

theorem enc_big {u : Nat} (h : 128 ≤ u) : enc u = (u % 128 + 128) :: enc (u / 128) := by rw [enc, if_neg (by omega)]
theorem enc_small {u : Nat} (h : u < 128) : enc u = [u] := by rw [enc, if_pos h]
theorem enc_len (u : Nat) : ∀ k, u < 128 ^ k → 0 < k → (enc u).length ≤ k := by
  intro k
  induction k generalizing u with
  | zero => intro _ h; omega
  | succ k ih =>
    intro h _
    by_cases hu : u < 128
    · rw [enc_small hu]; simp
    · rw [enc_big (by omega)]
      by_cases hk : k = 0
      · subst hk; simp at h; omega
      · have := ih (u / 128) (by rw [Nat.div_lt_iff_lt_mul (by omega)]; rw [Nat.pow_succ] at h; exact h) (by omega)
        simp; omega
theorem enc_len10 (u : Nat) (h : u ≤ 18446744073709551615) : (enc u).length ≤ 10 := enc_len u 10 (Nat.lt_of_le_of_lt h (by decide)) (by decide)
theorem enc_pos (u : Nat) : 0 < (enc u).length := by rw [enc]; split <;> simp
set_option maxRecDepth 100000 in
theorem or128 (u : Nat) : u % 256 ||| 128 = u % 128 + 128 := by
  have h : ∀ a, a < 256 → a ||| 128 = a % 128 + 128 := by decide
  rw [h _ (Nat.mod_lt _ (by omega))]; omega
def getF (l : List Nat) (i acc : Nat) : Nat → Nat × Nat × Nat
  | 0 => (0, 0, 21)
  | k + 1 => if l.length ≤ i then (0, 0, 20) else if i = 9 ∧ 1 < l.getD i 0 then (0, 0, 21) else
      if 128 ≤ l.getD i 0 then getF l (i + 1) (acc + l.getD i 0 % 128 * 128 ^ i) k
      else if l.getD i 0 = 0 ∧ 0 < i then (0, 0, 21) else (acc + l.getD i 0 % 128 * 128 ^ i, i + 1, 0)

def getV (l : List Nat) : Nat × Nat × Nat := getF l 0 0 10
theorem getF_end (l : List Nat) (k acc : Nat) (hk : k < 10) (h : l.length ≤ k) : getF l k acc (10 - k) = (0, 0, 20) := by
  obtain ⟨j, hj⟩ : ∃ j, 10 - k = j + 1 := ⟨9 - k, by omega⟩
  rw [hj, getF, if_pos h]
theorem getF_ten (l : List Nat) (acc : Nat) : getF l 10 acc (10 - 10) = (0, 0, 21) := rfl
theorem getF_nine {l : List Nat} {k acc x : Nat} (hk : k = 9) (h : l[k]? = some x) (h1 : 1 < x) : getF l k acc (10 - k) = (0, 0, 21) := by
  obtain ⟨j, hj⟩ : ∃ j, 10 - k = j + 1 := ⟨9 - k, by omega⟩
  have hl := (List.getElem?_eq_some_iff.1 h).1
  rw [hj, getF, if_neg (by omega), if_pos ⟨hk, by simpa [List.getD, h] using h1⟩]
theorem getF_more {l : List Nat} {k acc x : Nat} (hk : k < 9) (h : l[k]? = some x) (h1 : 128 ≤ x) : getF l k acc (10 - k) = getF l (k + 1) (acc + x % 128 * 128 ^ k) (10 - (k + 1)) := by
  obtain ⟨j, hj⟩ : ∃ j, 10 - k = j + 1 := ⟨9 - k, by omega⟩
  have hl := (List.getElem?_eq_some_iff.1 h).1
  have hd : l.getD k 0 = x := by simp [List.getD, h]
  rw [hj, getF, if_neg (by omega), if_neg (by omega), hd, if_pos h1, show 10 - (k + 1) = j from by omega]
theorem getF_zero {l : List Nat} {k acc x : Nat} (hk : k < 10) (h : l[k]? = some x) (h1 : x = 0) (h2 : 0 < k) : getF l k acc (10 - k) = (0, 0, 21) := by
  obtain ⟨j, hj⟩ : ∃ j, 10 - k = j + 1 := ⟨9 - k, by omega⟩
  have hl := (List.getElem?_eq_some_iff.1 h).1
  have hd : l.getD k 0 = x := by simp [List.getD, h]
  rw [hj, getF, if_neg (by omega), hd, if_neg (by omega), if_neg (by omega), if_pos ⟨h1, h2⟩]
theorem getF_done {l : List Nat} {k acc x : Nat} (hk : k < 10) (h : l[k]? = some x) (h1 : x < 128) (h2 : ¬ (k = 9 ∧ 1 < x)) (h3 : ¬ (x = 0 ∧ 0 < k)) : getF l k acc (10 - k) = (acc + x % 128 * 128 ^ k, k + 1, 0) := by
  obtain ⟨j, hj⟩ : ∃ j, 10 - k = j + 1 := ⟨9 - k, by omega⟩
  have hl := (List.getElem?_eq_some_iff.1 h).1
  have hd : l.getD k 0 = x := by simp [List.getD, h]
  rw [hj, getF, if_neg (by omega), hd, if_neg h2, if_neg (by omega), if_neg h3]

theorem pow128 (k : Nat) : 128 ^ k = 2 ^ (7 * k) := by rw [show 128 = 2 ^ 7 from rfl, ← Nat.pow_mul]
theorem acc_step {acc y k : Nat} (hy : y < 128) (ha : acc < 128 ^ k) : acc + y * 128 ^ k < 128 ^ (k + 1) := by
  have : (y + 1) * 128 ^ k ≤ 128 * 128 ^ k := Nat.mul_le_mul_right _ (by omega)
  rw [Nat.pow_succ, Nat.mul_comm (128 ^ k)]
  rw [Nat.add_mul] at this
  omega

theorem get_back (l : List Nat) (hl : ∀ x ∈ l, x < 256) : ∀ (j k acc x m : Nat), k + j = 10 → getF l k acc j = (x, m, 0) →
    ∃ u, x = acc + u * 128 ^ k ∧ k < m ∧ m ≤ l.length ∧ (l.drop k).take (m - k) = enc u ∧ (0 < k → 0 < u) := by
  intro j
  induction j with
  | zero => intro k acc x m _ h; simp [getF] at h
  | succ j ih =>
    intro k acc x m hj h
    rw [getF] at h
    split at h
    · simp at h
    · rename_i h1
      have hk : k < l.length := by omega
      have hd : l.getD k 0 = l[k] := by simp [List.getD, hk]
      have hdrop : l.drop k = l[k] :: l.drop (k + 1) := List.drop_eq_getElem_cons hk
      have hlt := hl l[k] (List.getElem_mem hk)
      rw [hd] at h
      split at h
      · simp at h
      · rename_i h2
        split at h
        · rename_i h3
          obtain ⟨u, rfl, hm, hml, ht, hu⟩ := ih (k + 1) _ x m (by omega) h
          have hu0 := hu (by omega)
          refine ⟨l[k] % 128 + 128 * u, ?_, by omega, hml, ?_, fun _ => by omega⟩
          · rw [Nat.add_mul, Nat.pow_succ, Nat.mul_comm (128 ^ k) 128, ← Nat.mul_assoc, Nat.mul_comm u 128]; omega
          · rw [hdrop, show m - k = (m - (k + 1)) + 1 from by omega, List.take_succ_cons, ht, enc_big (u := l[k] % 128 + 128 * u) (by omega)]
            congr 1
            · omega
            · congr 1; omega
        · rename_i h3
          split at h
          · simp at h
          · rename_i h4
            simp only [Prod.mk.injEq] at h
            obtain ⟨rfl, rfl, _⟩ := h
            refine ⟨l[k], by rw [Nat.mod_eq_of_lt (by omega)], by omega, by omega, ?_, fun h0 => by omega⟩
            rw [hdrop, show k + 1 - k = 1 from by omega, enc_small (by omega)]; rfl
theorem getV_back {l : List Nat} (hl : ∀ x ∈ l, x < 256) {x m : Nat} (h : getV l = (x, m, 0)) : 1 ≤ m ∧ m ≤ l.length ∧ l.take m = enc x := by
  obtain ⟨u, rfl, h1, h2, h3, _⟩ := get_back l hl 10 0 0 x m rfl h
  refine ⟨h1, h2, ?_⟩
  simpa using h3
theorem getF_wrong (l : List Nat) : ∀ (j k acc : Nat), (getF l k acc j).2.2 = 0 ∨ ((getF l k acc j).1 = 0 ∧ (getF l k acc j).2.1 = 0 ∧ ((getF l k acc j).2.2 = 20 ∨ (getF l k acc j).2.2 = 21)) := by
  intro j
  induction j with
  | zero => intro k acc; right; simp [getF]
  | succ j ih =>
    intro k acc
    rw [getF]
    split
    · right; simp
    · split
      · right; simp
      · split
        · exact ih _ _
        · split
          · right; simp
          · left; rfl
theorem getF_lt (l : List Nat) : ∀ (j k acc : Nat), k + j = 10 → acc < 128 ^ k → (getF l k acc j).1 < 18446744073709551616 := by
  intro j
  induction j with
  | zero => intro k acc _ _; simp [getF]
  | succ j ih =>
    intro k acc hj ha
    rw [getF]
    split
    · simp
    · split
      · simp
      · rename_i h2
        split
        · exact ih _ _ (by omega) (acc_step (Nat.mod_lt _ (by omega)) ha)
        · rename_i h3
          split
          · simp
          · show acc + _ < _
            by_cases hk : k = 9
            · subst hk
              have : l.getD 9 0 % 128 * 128 ^ 9 ≤ 1 * 128 ^ 9 := Nat.mul_le_mul_right _ (by omega)
              omega
            · have h1 := acc_step (y := l.getD k 0 % 128) (Nat.mod_lt _ (by omega)) ha
              have h2 : 128 ^ (k + 1) ≤ 128 ^ 9 := Nat.pow_le_pow_right (by omega) (by omega)
              omega
theorem getV_lt (l : List Nat) : (getV l).1 ≤ 18446744073709551615 := by
  have := getF_lt l 10 0 0 rfl (by decide)
  unfold getV; omega
theorem getV_wrong (l : List Nat) : (getV l).2.2 = 0 ∨ ((getV l).1 = 0 ∧ (getV l).2.1 = 0 ∧ ((getV l).2.2 = 20 ∨ (getV l).2.2 = 21)) := getF_wrong l 10 0 0

/-! ### Bytes -/
def encB (u : Nat) : List UInt8 := (enc u).map UInt8.ofNat
def nats (b : List UInt8) : List Nat := b.map fun x => x.toNat
def vget (b : List UInt8) : Nat × Nat × Nat := getV (nats b)
theorem nats_lt (b : List UInt8) : ∀ x ∈ nats b, x < 256 := by
  intro x hx
  obtain ⟨c, _, rfl⟩ := List.mem_map.1 hx
  exact c.toNat_lt
theorem nats_len (b : List UInt8) : (nats b).length = b.length := by simp [nats]
theorem encB_big {u : Nat} (h : 128 ≤ u) : encB u = UInt8.ofNat (u % 128 + 128) :: encB (u / 128) := by unfold encB; rw [enc_big h]; rfl
theorem encB_small {u : Nat} (h : u < 128) : encB u = [UInt8.ofNat u] := by unfold encB; rw [enc_small h]; rfl
theorem encB_len (u : Nat) : (encB u).length = (enc u).length := by simp [encB]
theorem encB_len10 {u : Nat} (h : u ≤ 18446744073709551615) : (encB u).length ≤ 10 := by rw [encB_len]; exact enc_len10 u h
theorem encB_pos (u : Nat) : 0 < (encB u).length := by rw [encB_len]; exact enc_pos u
theorem vget_back {b : List UInt8} {x m : Nat} (h : vget b = (x, m, 0)) : 1 ≤ m ∧ m ≤ b.length ∧ b.take m = encB x := by
  obtain ⟨h1, h2, h3⟩ := getV_back (nats_lt b) h
  rw [nats_len] at h2
  refine ⟨h1, h2, ?_⟩
  unfold encB
  rw [← h3]
  simp only [nats, List.map_take, List.map_map]
  congr 1
  have : ∀ l : List UInt8, l.map (UInt8.ofNat ∘ fun x => x.toNat) = l := by
    intro l
    induction l with
    | nil => rfl
    | cons a l ih => rw [List.map_cons, ih]; congr 1; exact UInt8.ofNat_toNat
  exact (this b).symm
theorem vget_lt (b : List UInt8) : (vget b).1 ≤ 18446744073709551615 := getV_lt _
theorem vget_wrong (b : List UInt8) : (vget b).2.2 = 0 ∨ ((vget b).1 = 0 ∧ (vget b).2.1 = 0 ∧ ((vget b).2.2 = 20 ∨ (vget b).2.2 = 21)) := getV_wrong _
theorem enc_lt2 {u : Nat} (h : u ≤ 18446744073709551615) : ∀ {pre : List UInt8} {v : Nat}, pre ++ encB v = encB u → pre.length + 1 ≤ 10 := fun {pre v} e => by
  have := congrArg List.length e
  rw [List.length_append] at this
  have := encB_len10 h
  have := encB_pos v
  omega
theorem or_128 (v : Nat) : UInt8.ofNat v ||| 128 = UInt8.ofNat (v % 128 + 128) := by
  apply UInt8.toNat_inj.1
  rw [UInt8.toNat_or, UInt8.toNat_ofNat', UInt8.toNat_ofNat']
  show v % 256 ||| 128 = _
  rw [or128]; omega
theorem and_127 (c : UInt8) : (c &&& 127).toNat = c.toNat % 128 := by
  rw [UInt8.toNat_and]
  show c.toNat &&& 127 = _
  rw [show (127 : Nat) = 2 ^ 7 - 1 by rfl, Nat.and_two_pow_sub_one_eq_mod]
theorem nats_at {b : List UInt8} {k : Nat} (h : k < b.length) : (nats b)[k]? = some b[k].toNat := by simp [nats, h]
theorem or_stepN {acc y k : Nat} (hk : k < 10) (hy : y < 128) (h9 : k = 9 → y ≤ 1) (ha : acc < 128 ^ k) : acc ||| (y * 2 ^ (7 * k) % 18446744073709551616) = acc + y * 128 ^ k ∧ acc < 18446744073709551616 := by
  have hp : 128 ^ k * y < 18446744073709551616 := by
    by_cases hk9 : k = 9
    · subst hk9; have := h9 rfl; have : 128 ^ 9 * y ≤ 128 ^ 9 * 1 := Nat.mul_le_mul_left _ this; omega
    · have h1 : 128 ^ k ≤ 128 ^ 8 := Nat.pow_le_pow_right (by omega) (by omega)
      have : 128 ^ k * y ≤ 128 ^ 8 * 127 := Nat.mul_le_mul h1 (by omega)
      omega
  have ha' : acc < 18446744073709551616 := by
    have h1 : 128 ^ k ≤ 128 ^ 9 := Nat.pow_le_pow_right (by omega) (by omega)
    omega
  refine ⟨?_, ha'⟩
  rw [← pow128, Nat.mod_eq_of_lt (by rw [Nat.mul_comm]; exact hp), Nat.or_comm, pow128, Nat.mul_comm y, Nat.add_comm]
  rw [pow128] at ha
  exact (Nat.two_pow_add_eq_or_of_lt ha y).symm
/-! ### The row 0, -1, 1, -2, .. -/
def zigN (v : Int) : Nat := if 0 ≤ v then (2 * v).toNat else (-2 * v - 1).toNat
def zagI (u : Nat) : Int := if u % 2 = 0 then ((u / 2 : Nat) : Int) else -((u / 2 : Nat) : Int) - 1
theorem zig_le {v : Int} (h1 : -9223372036854775808 ≤ v) (h2 : v ≤ 9223372036854775807) : zigN v ≤ 18446744073709551615 := by unfold zigN; split <;> omega
theorem zig_zag (u : Nat) : zigN (zagI u) = u := by unfold zagI; split <;> (unfold zigN; split <;> omega)
theorem zag_bnd {u : Nat} (h : u ≤ 18446744073709551615) : -9223372036854775808 ≤ zagI u ∧ zagI u ≤ 9223372036854775807 := by unfold zagI; split <;> omega
theorem xor_allN {a : Nat} (h : a < 18446744073709551616) : a ^^^ 18446744073709551615 = 18446744073709551615 - a := by
  have e1 : (BitVec.ofNat 64 a ^^^ BitVec.allOnes 64).toNat = a ^^^ 18446744073709551615 := by
    rw [BitVec.toNat_xor, BitVec.toNat_ofNat, Nat.mod_eq_of_lt (by omega)]; rfl
  rw [← e1, BitVec.xor_allOnes, BitVec.toNat_not, BitVec.toNat_ofNat, Nat.mod_eq_of_lt (by omega)]
theorem zig_bits {v : Int} (h1 : -9223372036854775808 ≤ v) (h2 : v ≤ 9223372036854775807) : ((v % 18446744073709551616).toNat * 2 ^ 1 % 18446744073709551616) ^^^ ((v.fdiv (2 ^ 63)) % 18446744073709551616).toNat = zigN v := by
  unfold zigN
  rw [Int.fdiv_eq_ediv_of_nonneg _ (by decide)]
  by_cases h : 0 ≤ v
  · rw [if_pos h, show v / 2 ^ 63 = 0 by omega]
    show _ ^^^ 0 = _
    rw [Nat.xor_zero]; omega
  · rw [if_neg h, show v / 2 ^ 63 = -1 by omega]
    show _ ^^^ 18446744073709551615 = _
    rw [xor_allN (by omega)]; omega
theorem ofNat64 (a : Nat) (h : a < 18446744073709551616) : (BitVec.ofInt 64 (a : Int)).toNat = a := by
  rw [BitVec.ofInt_natCast, BitVec.toNat_ofNat]; exact Nat.mod_eq_of_lt (by omega)
theorem ones64 : BitVec.ofInt 64 (-1) = BitVec.allOnes 64 := by rfl
theorem xor_zero_i (a : Nat) (h : a < 9223372036854775808) : bits .xor .i64 (a : Int) 0 = (a : Int) := by
  show IntKind.i64.wrap ((BitVec.ofInt 64 (a : Int) ^^^ BitVec.ofInt 64 ((0 : Nat) : Int)).toNat : Int) = _
  rw [BitVec.toNat_xor, ofNat64 a (by omega), ofNat64 0 (by omega), Nat.xor_zero, IntKind.wrap_i64]; omega
theorem xor_ones_i (a : Nat) (h : a < 9223372036854775808) : bits .xor .i64 (a : Int) (-1) = -(a : Int) - 1 := by
  show IntKind.i64.wrap ((BitVec.ofInt 64 (a : Int) ^^^ BitVec.ofInt 64 (-1)).toNat : Int) = _
  rw [ones64, BitVec.xor_allOnes, BitVec.toNat_not, ofNat64 a (by omega), IntKind.wrap_i64]; omega
theorem and_1 (u : Nat) : u &&& 1 = u % 2 := Nat.and_one_is_mod u
theorem zag_bits {u : Nat} (h : u ≤ 18446744073709551615) (t : TypeId) : binOp .xor t (.int .i64 (sgn (u / 2 ^ 1))) (.int .i64 (-(sgn (u &&& 1)))) = .pure (.int .i64 (zagI u)) := by
  have e1 : sgn (u / 2 ^ 1) = ((u / 2 : Nat) : Int) := by unfold sgn; rw [if_pos (by omega)]
  rw [e1, and_1]
  show Sem.pure (Value.int .i64 (bits .xor .i64 _ _)) = _
  unfold zagI
  by_cases h0 : u % 2 = 0
  · rw [if_pos h0, h0]
    show Sem.pure (Value.int .i64 (bits .xor .i64 _ 0)) = _
    rw [xor_zero_i _ (by omega)]
  · rw [if_neg h0, show u % 2 = 1 by omega]
    show Sem.pure (Value.int .i64 (bits .xor .i64 _ (-1))) = _
    rw [xor_ones_i _ (by omega)]
end Go.Proofs.Ytpdjcfhmdeeikaa
namespace Go.DL
open Go.RowKit

theorem LS : (∀ l : List UInt8, (bytesD l).length = l.length) ∧ (∀ (zv : Value) (n sz : Nat), (zeros zv n sz).length = n) ∧ (∀ l : List Val, (l.flatMap vc).length = l.length * 3) ∧ (∀ {α : Type} (a b : List α), (a ++ b).length = a.length + b.length) ∧ (∀ {α : Type} (n : Nat) (l : List α), (l.take n).length = min n l.length)
    ∧ (∀ {α : Type} (n : Nat) (l : List α), (l.drop n).length = l.length - n) ∧ (∀ {α β : Type} (f : α → β) (l : List α), (l.map f).length = l.length) ∧ (∀ {α : Type}, ([] : List α).length = 0) ∧ (∀ {α : Type} (a : α) (l : List α), (a :: l).length = l.length + 1) ∧ (∀ {α : Type} (n : Nat) (a : α), (List.replicate n a).length = n)
    ∧ (∀ {α : Type} (l : List α), l.reverse.length = l.length) ∧ (∀ {α : Type} (l : List α) (n : Nat) (a : α), (l.set n a).length = l.length) ∧ (∀ n : Nat, (List.range n).length = n) ∧ (∀ l : List UInt8, (strB l).size = l.length) :=
  ⟨bytesD_len, zeros_len, flatMap_len vc_len, fun _ _ => List.length_append, fun _ _ => List.length_take, fun _ _ => List.length_drop, fun _ _ => List.length_map _, List.length_nil, fun _ _ => List.length_cons, fun _ _ => List.length_replicate, fun _ => List.length_reverse, fun _ _ _ => List.length_set, fun _ => List.length_range, strB_size⟩
theorem CN : (∀ (p : Prop) [Decidable p], (decide p = true) = p) ∧ (∀ (p : Prop) [Decidable p], decide p = false ↔ ¬p) ∧ (∀ a b : Bool, ((a && b) = true) = (a = true ∧ b = true)) ∧ (∀ a b : Bool, ((a || b) = true) = (a = true ∨ b = true)) ∧ (∀ b : Bool, ((!b) = true) = (b = false)) ∧ (∀ b : Bool, ((!b) = false) = (b = true))
    ∧ (∀ a b : Bool, ((a && b) = false) = (a = false ∨ b = false)) ∧ (∀ a b : Bool, ((a || b) = false) = (a = false ∧ b = false)) ∧ (∀ {α : Type} [BEq α] [LawfulBEq α] (a b : α), (a == b) = true ↔ a = b) ∧ (∀ {α : Type} [BEq α] [LawfulBEq α] (a b : α), (a != b) = true ↔ a ≠ b) ∧ (∀ {α : Type} [BEq α] [LawfulBEq α] (a b : α), (a == b) = false ↔ a ≠ b)
    ∧ (∀ {α : Type} [BEq α] [LawfulBEq α] (a b : α), (a != b) = false ↔ a = b) ∧ (∀ a b : Int, ¬a < b ↔ b ≤ a) ∧ (∀ a b : Int, ¬a ≤ b ↔ b < a) ∧ (∀ {α : Type} (a b : α), (a ≠ b) = ¬(a = b)) ∧ (∀ (p : Prop) [Decidable p], ¬¬p ↔ p) :=
  ⟨fun _ _ => decide_eq_true_eq, fun _ _ => decide_eq_false_iff_not, fun _ _ => Bool.and_eq_true _ _, fun _ _ => Bool.or_eq_true _ _, fun b => by cases b <;> simp, fun b => by cases b <;> simp, fun a b => by cases a <;> cases b <;> simp, fun a b => by cases a <;> cases b <;> simp, fun _ _ => beq_iff_eq, fun _ _ => bne_iff_ne, fun _ _ => beq_eq_false_iff_ne, fun _ _ => bne_eq_false_iff_eq, fun _ _ => Int.not_lt, fun _ _ => Int.not_le, fun _ _ => ne_eq _ _, fun _ _ => Decidable.not_not⟩

def pur0 : D → Bool
  | .any | .v _ | .rd _ _ | .adr _ | .mp _ _ => true
  | .agg cs => cs.all isV
  | _ => false
theorem pur0_of {d : D} (h : pur0 d = true) : Pure' d := by
  cases d <;> first | (cases h; done) | skip
  all_goals first | exact .any | exact .v _ | exact .rd _ _ | exact .adr _ | exact .mp _ _ | exact .agg _ (pu_vs h)
def pur1 : D → Bool
  | .agg cs | .tup cs | .fn _ cs => cs.all pur0
  | .iface _ d => pur0 d
  | d => pur0 d
theorem pur1_all {cs : List D} (h : cs.all pur0 = true) : ∀ c ∈ cs, Pure' c := fun c hc => pur0_of (List.all_eq_true.1 h c hc)
theorem pu_of {d : D} (h : pur1 d = true) : Pure' d := by
  cases d with
  | agg cs => exact .agg _ (pur1_all h)
  | tup cs => exact .tup _ (pur1_all h)
  | fn f cs => exact .fn _ _ (pur1_all h)
  | iface t d => exact .iface _ _ (pur0_of h)
  | _ => exact pur0_of h
theorem pua : ∀ {ds : List D}, ds.all pur1 = true → PureAll ds
  | [], _ => trivial
  | d :: ds, h => by
    rw [List.all_cons, Bool.and_eq_true] at h
    exact ⟨pu_of h.1, pua h.2⟩
end Go.DL
namespace Go.Proofs.Ytpdjcfhmdeeikaa
open Go.RowKit Go.DL

abbrev vr (r : Nat × Nat × Nat) : D := .tup [N64 r.1, I64 r.2.1, I64 r.2.2]
theorem vr_eq {a b : Nat} {m : Int} {n : Nat} {r : Nat × Nat × Nat} (h : r = (a, b, n)) (hm : m = (b : Int)) : D.tup [N64 a, I64 m, I64 n] = vr r := by subst h hm; rfl
set_option maxHeartbeats 4000000 in
theorem vput_c (b : List UInt8) (u : Nat) (hb : b.length ≤ 10995116277760) (hu : u ≤ 18446744073709551615) : Fun Try.prog 54 [rdB b, N64 u] (· = rdB (b ++ encB u)) := by
  refine Fun.of Try.func54 rfl (Nat.le_of_ble_eq_true rfl) fun C => ?_
  refine WC.seq fun Fh1_ h1_ => ?_
  refine WC.region ?_
  refine RG.op _ _ rfl rfl (o_assign (.v _) rfl) ?_
  refine RG.nil (h1_ _ ?_)
  refine WC.seq fun Fh2_ h2_ => ?_
  refine WC.region ?_
  refine RG.op _ _ rfl rfl (o_move (.rd _ _) rfl) ?_
  refine RG.op _ _ rfl rfl (o_len_rd rfl Try.underlying24) ?_
  refine RG.op _ _ rfl rfl (o_move (.rd _ _) rfl) ?_
  refine RG.op _ _ rfl rfl (o_len_rd rfl Try.underlying24) ?_
  refine RG.op _ _ rfl rfl (o_add rfl rfl (by first | omega | exact ubyte _ | (simp only [LS] <;> omega)) (by first | omega | exact ubyte _ | (simp only [LS] <;> omega))) ?_
  refine RG.op _ _ rfl rfl (o_makeT b.length b.length (b.length + 10) rfl rfl Try.underlying24 Ty.inf5 rfl rfl (by first | omega | exact ubyte _ | (simp only [LS] <;> omega)) (by first | omega | exact ubyte _ | (simp only [LS] <;> omega)) (by first | omega | exact ubyte _ | (simp only [LS] <;> omega)) (by first | omega | exact ubyte _ | (simp only [LS] <;> omega)) (by first | omega | exact ubyte _ | (simp only [LS] <;> omega))) ?_
  refine RG.op _ _ rfl rfl (o_assign (.own _ _ _ _ _) rfl) ?_
  refine RG.nil (h2_ _ ?_)
  refine WC.seq fun Fh3_ h3_ => ?_
  refine WC.region ?_
  refine RG.op _ _ rfl rfl (o_move (.own _ _ _ _ _) rfl) ?_
  refine RG.op _ _ rfl rfl (o_move (.rd _ _) rfl) ?_
  refine RG.op _ _ rfl rfl (o_copyA rfl rfl Try.underlying24 (sz_of Ty.inf5) rfl rfl (by first | omega | exact ubyte _ | (simp only [LS] <;> omega)) rfl (by first | omega | exact ubyte _ | (simp only [LS] <;> omega)) (by repeat (first | exact bytesD_one _ | exact one_nil | exact one_map (fun _ => rfl) _ | exact one_vals _ | refine one_app ?_ ?_ | refine one_cons rfl ?_))) ?_
  refine RG.nil (h3_ _ ?_)
  refine WC.seq fun Fh4_ h4_ => ?_
  refine WC.block ?_
  refine WC.loopU [1, 5, 15, 16, 17, 18, 19, 20, 21, 22, 23, 24] (fun (p : List UInt8 × Nat) => [(1, N64 p.2), (5, ow 0 (b.length + p.1.length) 1)]) (fun (p : List UInt8 × Nat) => [(0, tb 5 (b.length + p.1.length) (bytesD (b ++ p.1)))]) (fun (p : List UInt8 × Nat) => p.1 ++ encB p.2 = encB u ∧ p.2 ≤ u) (fun (p : List UInt8 × Nat) => p.2) ([], u) ⟨rfl, Nat.le_refl _⟩ ?lpa5_ ?lpb6_
  case lpa5_ =>
    exact .mk' ⟨⟨rfl, .v _⟩, ⟨ow_eq (by simp), (by first | exact .own _ _ _ _ _ (Nat.le_refl _) | exact .ptr _ _ _ (Nat.le_refl _) | exact .omp _ _ (Nat.le_refl _))⟩, trivial⟩ (same_refl _ _) (congrArg (fun c => [c]) (tb_eq (by simp) (by simp))) (by repeat (first | exact trivial | refine And.intro (Nat.le_refl _) ?_ | refine And.intro trivial ?_ | refine And.intro (by show _ ≤ _; (first | omega | (simp only [LS] <;> omega))) ?_)) (by repeat (first | exact trivial | refine And.intro (one_ok (.own _ _ _ _ _ (Nat.le_refl _))) ?_ | refine And.intro (okp (by repeat (first | exact pu_bytes _ | exact pu_nil | exact pu_vs rfl | exact pu_map (fun _ => .v _) _ | exact pu_vals _ | refine pu_app ?_ ?_ | refine pu_cons (by exact pu_of rfl) ?_))) ?_))
  case lpb6_ =>
    rintro p hI
    obtain ⟨he, hp⟩ := id hI
    have hl := enc_lt2 hu he
    refine WC.seq fun Fh7_ h7_ => ?_
    refine WC.seq fun Fh8_ h8_ => ?_
    refine WC.region ?_
    refine RG.op _ _ rfl rfl (o_move (.v _) rfl) ?_
    refine RG.op _ _ rfl rfl (o_geI rfl rfl) ?_
    refine RG.nil (h8_ _ ?_)
    refine WC.cond _ rfl (fun c3 => ?_) (fun c3 => ?_)
    ·
      have p3 := c3
      try simp only [CN] at p3
      refine WC.skip (h7_ _ ?_)
      refine WC.block ?_
      refine WC.seq fun Fh9_ h9_ => ?_
      refine WC.region ?_
      refine RG.op _ _ rfl rfl (o_move (.own _ _ _ _ _) rfl) ?_
      refine RG.op _ _ rfl rfl (o_move (.v _) rfl) ?_
      refine RG.op _ _ rfl rfl (o_UtoB rfl Try.underlying69 Try.underlying5) ?_
      refine RG.op _ _ rfl rfl (o_orB (b := 128) rfl rfl) ?_
      refine RG.op _ _ rfl rfl (o_litP (cs := [(.v _)]) Try.underlying24 Ty.inf5 rfl rfl rfl rfl (by repeat (first | exact pu_bytes _ | exact pu_nil | exact pu_vs rfl | exact pu_map (fun _ => .v _) _ | exact pu_vals _ | refine pu_app ?_ ?_ | refine pu_cons (by exact pu_of rfl) ?_))) ?_
      refine RG.op _ _ rfl rfl (o_appT (Elem.of Try.underlying24 Ty.inf5 rfl (by decide)) rfl rfl rfl (by first | omega | exact ubyte _ | (simp only [LS] <;> omega)) (by first | omega | exact ubyte _ | (simp only [LS] <;> omega)) (by repeat (first | exact bytesD_one _ | exact one_nil | exact one_map (fun _ => rfl) _ | exact one_vals _ | refine one_app ?_ ?_ | refine one_cons rfl ?_)) (by first | omega | exact ubyte _ | (simp only [LS] <;> omega)) (by first | omega | exact ubyte _ | (simp only [LS] <;> omega))) ?_
      refine RG.op _ _ rfl rfl (o_assign (.own _ _ _ _ _) rfl) ?_
      refine RG.nil (h9_ _ ?_)
      refine WC.region ?_
      refine RG.op _ _ rfl rfl (o_move (.v _) rfl) ?_
      refine RG.op _ _ rfl rfl (o_shrU (n := 7) rfl rfl (by show _ ≤ 64; (first | omega | (simp only [LS] <;> omega)))) ?_
      refine RG.op _ _ rfl rfl (o_assign (.v _) rfl) ?_
      refine RG.nil (Exists.intro ((p.1 ++ [UInt8.ofNat (p.2 % 128 + 128)], p.2 / 128)) ⟨⟨by rw [← he, encB_big (u := p.2) (by omega), List.append_assoc]; rfl, by show p.2 / 128 ≤ u; omega⟩, by show p.2 / 128 < p.2; omega, ?_⟩)
      exact .mk' ⟨⟨rfl, .v _⟩, ⟨ow_eq (by simp; omega), (by first | exact .own _ _ _ _ _ (Nat.le_refl _) | exact .ptr _ _ _ (Nat.le_refl _) | exact .omp _ _ (Nat.le_refl _))⟩, trivial⟩ (by repeat (first | with_reducible exact same_refl _ _ | with_reducible refine same_updO (by with_unfolding_all exact rfl) ?_ | with_reducible refine same_updN ?_ | with_reducible refine same_updL (by with_unfolding_all exact rfl) ?_ | with_reducible refine same_forget (by with_unfolding_all exact rfl) ?_)) (congrArg (fun c => [c]) (tb_eq (by simp; omega) (by rw [or_128, ← List.append_assoc]; exact (bytesD_app _ [_]).symm))) (by repeat (first | exact trivial | refine And.intro (Nat.le_refl _) ?_ | refine And.intro trivial ?_ | refine And.intro (by show _ ≤ _; (first | omega | (simp only [LS] <;> omega))) ?_)) (by repeat (first | exact trivial | refine And.intro (one_ok (.own _ _ _ _ _ (Nat.le_refl _))) ?_ | refine And.intro (okp (by repeat (first | exact pu_bytes _ | exact pu_nil | exact pu_vs rfl | exact pu_map (fun _ => .v _) _ | exact pu_vals _ | refine pu_app ?_ ?_ | refine pu_cons (by exact pu_of rfl) ?_))) ?_))
    ·
      have p3 := c3
      try simp only [CN] at p3
      refine WC.exit (h4_ _ ?_)
      refine WC.seq fun Fh10_ h10_ => ?_
      refine WC.region ?_
      refine RG.op _ _ rfl rfl (o_move (.own _ _ _ _ _) rfl) ?_
      refine RG.op _ _ rfl rfl (o_move (.v _) rfl) ?_
      refine RG.op _ _ rfl rfl (o_UtoB rfl Try.underlying69 Try.underlying5) ?_
      refine RG.op _ _ rfl rfl (o_litP (cs := [(.v _)]) Try.underlying24 Ty.inf5 rfl rfl rfl rfl (by repeat (first | exact pu_bytes _ | exact pu_nil | exact pu_vs rfl | exact pu_map (fun _ => .v _) _ | exact pu_vals _ | refine pu_app ?_ ?_ | refine pu_cons (by exact pu_of rfl) ?_))) ?_
      refine RG.op _ _ rfl rfl (o_appT (Elem.of Try.underlying24 Ty.inf5 rfl (by decide)) rfl rfl rfl (by first | omega | exact ubyte _ | (simp only [LS] <;> omega)) (by first | omega | exact ubyte _ | (simp only [LS] <;> omega)) (by repeat (first | exact bytesD_one _ | exact one_nil | exact one_map (fun _ => rfl) _ | exact one_vals _ | refine one_app ?_ ?_ | refine one_cons rfl ?_)) (by first | omega | exact ubyte _ | (simp only [LS] <;> omega)) (by first | omega | exact ubyte _ | (simp only [LS] <;> omega))) ?_
      refine RG.op _ _ rfl rfl (o_assign (.own _ _ _ _ _) rfl) ?_
      refine RG.nil (h10_ _ ?_)
      refine WC.ret ?_
      exact Ends.r1 rfl (.tmp _ (.own _ _ _ _ _) rfl) (.tb rfl (by repeat (first | exact pu_bytes _ | exact pu_nil | exact pu_vs rfl | exact pu_map (fun _ => .v _) _ | exact pu_vals _ | refine pu_app ?_ ?_ | refine pu_cons (by exact pu_of rfl) ?_))) (rd_eq (by rw [← he, encB_small (u := p.2) (by omega)]; simp; omega) (by rw [← he, encB_small (u := p.2) (by omega), ← List.append_assoc]; exact (bytesD_app _ [_]).symm))
set_option maxHeartbeats 4000000 in
theorem vzig_c (v : Int) (h1 : -9223372036854775808 ≤ v) (h2 : v ≤ 9223372036854775807) : Fun Try.prog 64 [I64 v] (· = N64 (zigN v)) := by
  refine Fun.of Try.func64 rfl (Nat.le_of_ble_eq_true rfl) fun C => ?_
  refine WC.seq fun Fh1_ h1_ => ?_
  refine WC.region ?_
  refine RG.op _ _ rfl rfl (o_assign (N64 0) rfl) ?_
  refine RG.nil (h1_ _ ?_)
  refine WC.seq fun Fh2_ h2_ => ?_
  refine WC.region ?_
  refine RG.op _ _ rfl rfl (o_move (.v _) rfl) ?_
  refine RG.op _ _ rfl rfl (o_i64toU rfl Try.underlying2 Try.underlying69) ?_
  refine RG.op _ _ rfl rfl (o_shlU (n := 1) rfl rfl (by first | omega | exact ubyte _ | (simp only [LS] <;> omega))) ?_
  refine RG.op _ _ rfl rfl (o_move (.v _) rfl) ?_
  refine RG.op _ _ rfl rfl (o_bin (.int .i64 (v.fdiv (2 ^ 63))) rfl rfl (shr_run (n := 63) (by decide))) ?_
  refine RG.op _ _ rfl rfl (o_i64toU rfl Try.underlying2 Try.underlying69) ?_
  refine RG.op _ _ rfl rfl (o_xorU rfl rfl (by first | omega | exact ubyte _ | (simp only [LS] <;> omega)) (by first | omega | exact ubyte _ | (simp only [LS] <;> omega))) ?_
  refine RG.op _ _ rfl rfl (o_assign (.v _) rfl) ?_
  refine RG.nil (h2_ _ ?_)
  refine WC.ret ?_
  exact Ends.r1 rfl (.tmp _ (.v _) rfl) (.v _) (congrArg N64 (zig_bits h1 h2))
set_option maxHeartbeats 4000000 in
theorem vzag_c (u : Nat) (hu : u ≤ 18446744073709551615) : Fun Try.prog 65 [N64 u] (· = I64 (zagI u)) := by
  refine Fun.of Try.func65 rfl (Nat.le_of_ble_eq_true rfl) fun C => ?_
  refine WC.seq fun Fh1_ h1_ => ?_
  refine WC.region ?_
  refine RG.op _ _ rfl rfl (o_assign (.v _) rfl) ?_
  refine RG.nil (h1_ _ ?_)
  refine WC.seq fun Fh2_ h2_ => ?_
  have hq : sgn (u &&& 1) = ((u % 2 : Nat) : Int) := by rw [and_1]; unfold sgn; rw [if_pos (by omega)]
  have ha1 : u &&& 1 ≤ 1 := by rw [and_1]; omega
  refine WC.region ?_
  refine RG.op _ _ rfl rfl (o_move (.v _) rfl) ?_
  refine RG.op _ _ rfl rfl (o_shrU (n := 1) rfl rfl (by show _ ≤ 64; (first | omega | (simp only [LS] <;> omega)))) ?_
  refine RG.op _ _ rfl rfl (o_UtoI64 rfl (by first | omega | exact ubyte _ | (simp only [LS] <;> omega)) Try.underlying69 Try.underlying2) ?_
  refine RG.op _ _ rfl rfl (o_move (.v _) rfl) ?_
  refine RG.op _ _ rfl rfl (o_andU (b := 1) rfl rfl (by first | omega | exact ubyte _ | (simp only [LS] <;> omega)) (by first | omega | exact ubyte _ | (simp only [LS] <;> omega))) ?_
  refine RG.op _ _ rfl rfl (o_UtoI64 rfl (by first | omega | exact ubyte _ | (simp only [LS] <;> omega)) Try.underlying69 Try.underlying2) ?_
  refine RG.op _ _ rfl rfl (o_neg rfl (by first | omega | exact ubyte _ | (simp only [LS] <;> omega)) (by first | omega | exact ubyte _ | (simp only [LS] <;> omega))) ?_
  refine RG.op _ _ rfl rfl (o_bin (.int .i64 (zagI u)) rfl rfl (zag_bits hu _)) ?_
  refine RG.op _ _ rfl rfl (o_assign (.v _) rfl) ?_
  refine RG.nil (h2_ _ ?_)
  refine WC.ret ?_
  exact Ends.r1 rfl (.tmp _ (.v _) rfl) (.v _) (rfl)
set_option maxHeartbeats 4000000 in
theorem vget_c (b : List UInt8) (hb : b.length ≤ 10995116277760) : Fun Try.prog 55 [rdB b] (· = vr (vget b)) := by
  refine Fun.of Try.func55 rfl (Nat.le_of_ble_eq_true rfl) fun C => ?_
  refine WC.seq fun Fh1_ h1_ => ?_
  refine WC.region ?_
  refine RG.op _ _ rfl rfl (o_assign (N64 0) rfl) ?_
  refine RG.op _ _ rfl rfl (o_assign (.v _) rfl) ?_
  refine RG.op _ _ rfl rfl (o_assign (.v _) rfl) ?_
  refine RG.nil (h1_ _ ?_)
  refine WC.seq fun Fh2_ h2_ => ?_
  refine WC.region ?_
  refine RG.op _ _ rfl rfl (o_assign (N64 0) rfl) ?_
  refine RG.nil (h2_ _ ?_)
  refine WC.seq fun Fh3_ h3_ => ?_
  refine WC.seq fun Fh4_ h4_ => ?_
  refine WC.region ?_
  refine RG.op _ _ rfl rfl (o_move (.v _) rfl) ?_
  refine RG.nil (h4_ _ ?_)
  refine WC.block ?_
  refine WC.loopU [2, 3, 4, 5, 6, 7, 8, 9, 10, 11, 12, 13, 14, 15, 16, 17, 18, 19, 20, 21, 22, 23, 24, 25, 26, 27, 28, 29, 30, 31, 32, 33, 34, 35, 36, 37, 38, 39, 40, 41, 42, 43, 44, 45] (fun (p : Nat × Nat) => [(8, I64 ((p.1 : Nat) : Int)), (5, N64 p.2)]) (fun (p : Nat × Nat) => []) (fun (p : Nat × Nat) => p.1 ≤ 10 ∧ p.1 ≤ b.length ∧ p.2 < 128 ^ p.1 ∧ vget b = getF (nats b) p.1 p.2 (10 - p.1)) (fun (p : Nat × Nat) => 10 - p.1) (0, 0) ⟨by omega, by omega, by decide, rfl⟩ ?lpa5_ ?lpb6_
  case lpa5_ =>
    exact .mk' ⟨⟨rfl, .v _⟩, ⟨rfl, .v _⟩, trivial⟩ (same_refl _ _) (rfl) (by repeat (first | exact trivial | refine And.intro (Nat.le_refl _) ?_ | refine And.intro trivial ?_ | refine And.intro (by show _ ≤ _; (first | omega | (simp only [LS] <;> omega))) ?_)) (by repeat (first | exact trivial | refine And.intro (one_ok (.own _ _ _ _ _ (Nat.le_refl _))) ?_ | refine And.intro (okp (by repeat (first | exact pu_bytes _ | exact pu_nil | exact pu_vs rfl | exact pu_map (fun _ => .v _) _ | exact pu_vals _ | refine pu_app ?_ ?_ | refine pu_cons (by exact pu_of rfl) ?_))) ?_))
  case lpb6_ =>
    rintro p hI
    obtain ⟨hk, hkb, ha, he⟩ := id hI
    refine WC.seq fun Fh7_ h7_ => ?_
    refine WC.region ?_
    refine RG.op _ _ rfl rfl (o_ltI rfl rfl) ?_
    refine RG.nil (h7_ _ ?_)
    refine WC.seq fun Fh8_ h8_ => ?_
    refine WC.cond _ rfl (fun c3 => ?_) (fun c3 => ?_)
    ·
      have p3 := c3
      try simp only [CN] at p3
      have h10 : p.1 < 10 := by omega
      refine WC.skip (h8_ _ ?_)
      refine WC.seq fun Fh9_ h9_ => ?_
      refine WC.block ?_
      refine WC.seq fun Fh10_ h10_ => ?_
      refine WC.region ?_
      refine RG.op _ _ rfl rfl (o_move (.v _) rfl) ?_
      refine RG.op _ _ rfl rfl (o_assign (.v _) rfl) ?_
      refine RG.nil (h10_ _ ?_)
      refine WC.seq fun Fh11_ h11_ => ?_
      refine WC.seq fun Fh12_ h12_ => ?_
      refine WC.region ?_
      refine RG.op _ _ rfl rfl (o_move (.v _) rfl) ?_
      refine RG.op _ _ rfl rfl (o_move (.rd _ _) rfl) ?_
      refine RG.op _ _ rfl rfl (o_len_rd rfl Try.underlying24) ?_
      refine RG.op _ _ rfl rfl (o_eqI rfl rfl) ?_
      refine RG.nil (h12_ _ ?_)
      refine WC.cond _ rfl (fun c5 => ?_) (fun c5 => ?_)
      ·
        have p5 := c5
        try simp only [CN] at p5
        refine WC.seq fun Fh13_ h13_ => ?_
        refine WC.region ?_
        refine RG.op _ _ rfl rfl (o_assign (N64 0) rfl) ?_
        refine RG.op _ _ rfl rfl (o_assign (.v _) rfl) ?_
        refine RG.op _ _ rfl rfl (o_assign (.v _) rfl) ?_
        refine RG.nil (h13_ _ ?_)
        refine WC.ret ?_
        exact Ends.r3 rfl (.tmp _ (.v _) rfl) (.tmp _ (.v _) rfl) (.tmp _ (.v _) rfl) (.v _) (.v _) (.v _) (vr_eq (by rw [he]; exact getF_end _ _ _ (by omega) (by rw [nats_len]; omega)) rfl)
      ·
        have p5 := c5
        try simp only [CN] at p5
        have hkb' : p.1 < b.length := by omega
        have n1 : (1 : UInt8).toNat = 1 := rfl
        have n128 : (128 : UInt8).toNat = 128 := rfl
        have hx := (b[p.1]'hkb').toNat_lt
        have hacc := (or_stepN (acc := p.2) (y := 0) (k := p.1) h10 (by decide) (fun _ => by decide) ha).2
        have h70 : 7 * p.1 ≤ 64 := by omega
        refine WC.skip (h11_ _ ?_)
        refine WC.seq fun Fh14_ h14_ => ?_
        refine WC.region ?_
        refine RG.op _ _ rfl rfl (o_move (.rd _ _) rfl) ?_
        refine RG.op _ _ rfl rfl (o_move (.v _) rfl) ?_
        refine RG.op _ _ rfl rfl (o_ixn_M p.1 rfl rfl Try.underlying24 (sz_of Ty.inf5) (by first | omega | exact ubyte _ | (simp only [LS] <;> omega)) (by first | omega | exact ubyte _ | (simp only [LS] <;> omega))) ?_
        refine RG.op _ _ rfl rfl (o_load_adr rfl Try.underlying5 rfl rfl) ?_
        refine RG.op _ _ rfl rfl (o_assign (.v _) rfl) ?_
        refine RG.nil (h14_ _ ?_)
        refine WC.seq fun Fh15_ h15_ => ?_
        refine WC.seq fun Fh16_ h16_ => ?_
        refine WC.region ?_
        refine RG.op _ _ rfl rfl (o_move (.v _) rfl) ?_
        refine RG.op _ _ rfl rfl (o_eqI rfl rfl) ?_
        refine RG.op _ _ rfl rfl (o_move (.v _) rfl) ?_
        refine RG.opg1 _ _ _ _ _ rfl rfl rfl rfl rfl (fun hb => o_move (.v _) rfl) ?_
        refine RG.opg1 _ _ _ _ _ rfl rfl rfl rfl rfl (fun hb => o_gtB (b := 1) (gdT hb) rfl) ?_
        refine RG.op _ _ rfl rfl (o_and _ _ rfl rfl rfl) ?_
        refine RG.nil (h16_ _ ?_)
        refine WC.cond _ rfl (fun c8 => ?_) (fun c8 => ?_)
        ·
          have p8 := c8
          try simp only [CN] at p8
          refine WC.seq fun Fh17_ h17_ => ?_
          refine WC.region ?_
          refine RG.op _ _ rfl rfl (o_assign (N64 0) rfl) ?_
          refine RG.op _ _ rfl rfl (o_assign (.v _) rfl) ?_
          refine RG.op _ _ rfl rfl (o_assign (.v _) rfl) ?_
          refine RG.nil (h17_ _ ?_)
          refine WC.ret ?_
          exact Ends.r3 rfl (.tmp _ (.v _) rfl) (.tmp _ (.v _) rfl) (.tmp _ (.v _) rfl) (.v _) (.v _) (.v _) (vr_eq (by rw [he]; exact getF_nine (by omega) (nats_at hkb') (by omega)) rfl)
        ·
          have p8 := c8
          try simp only [CN] at p8
          have h9 : p.1 = 9 → b[p.1].toNat % 128 ≤ 1 := fun h => by omega
          have h7k : 7 * ((p.1 : Int) % 18446744073709551616).toNat % 18446744073709551616 = 7 * p.1 := by omega
          refine WC.skip (h15_ _ ?_)
          refine WC.seq fun Fh18_ h18_ => ?_
          refine WC.region ?_
          refine RG.op _ _ rfl rfl (o_move (.v _) rfl) ?_
          refine RG.op _ _ rfl rfl (o_move (.v _) rfl) ?_
          refine RG.op _ _ rfl rfl (o_andB (b := 127) rfl rfl) ?_
          refine RG.op _ _ rfl rfl (o_BtoU rfl Try.underlying5 Try.underlying69) ?_
          refine RG.op _ _ rfl rfl (o_move (.v _) rfl) ?_
          refine RG.op _ _ rfl rfl (o_i64toU rfl Try.underlying3 Try.underlying66) ?_
          refine RG.op _ _ rfl rfl ((o_mulU (a := 7) rfl rfl).cast (congrArg N64 h7k)) ?_
          refine RG.op _ _ rfl rfl (o_shlU (n := 7 * p.1) rfl rfl h70) ?_
          refine RG.op _ _ rfl rfl (o_orU rfl rfl (Nat.le_of_lt_succ hacc) (Nat.le_of_lt_succ (Nat.mod_lt _ (by decide)))) ?_
          refine RG.op _ _ rfl rfl (o_assign (.v _) rfl) ?_
          refine RG.nil (h18_ _ ?_)
          refine WC.seq fun Fh19_ h19_ => ?_
          refine WC.seq fun Fh20_ h20_ => ?_
          clear h7k h70 hacc
          refine WC.region ?_
          refine RG.op _ _ rfl rfl (o_move (.v _) rfl) ?_
          refine RG.op _ _ rfl rfl (o_geB (b := 128) rfl rfl) ?_
          refine RG.nil (h20_ _ ?_)
          refine WC.cond _ rfl (fun c11 => ?_) (fun c11 => ?_)
          ·
            have p11 := c11
            try simp only [CN] at p11
            refine WC.exit (h9_ _ ?_)
            refine WC.region ?_
            refine RG.op _ _ rfl rfl (o_add rfl rfl (by first | omega | exact ubyte _ | (simp only [LS] <;> omega)) (by first | omega | exact ubyte _ | (simp only [LS] <;> omega))) ?_
            refine RG.op _ _ rfl rfl (o_move (.v _) rfl) ?_
            refine RG.nil (Exists.intro ((p.1 + 1, p.2 + b[p.1].toNat % 128 * 128 ^ p.1)) ⟨⟨by omega, by omega, acc_step (Nat.mod_lt _ (by omega)) ha, by rw [he]; exact getF_more (by omega) (nats_at hkb') (by omega)⟩, by omega, ?_⟩)
            exact .mk' ⟨⟨rfl, .v _⟩, ⟨congrArg N64 (by rw [and_127]; exact (or_stepN (y := b[p.1].toNat % 128) h10 (Nat.mod_lt _ (by decide)) h9 ha).1), .v _⟩, trivial⟩ (by repeat (first | with_reducible exact same_refl _ _ | with_reducible refine same_updO (by with_unfolding_all exact rfl) ?_ | with_reducible refine same_updN ?_ | with_reducible refine same_updL (by with_unfolding_all exact rfl) ?_ | with_reducible refine same_forget (by with_unfolding_all exact rfl) ?_)) (rfl) (by repeat (first | exact trivial | refine And.intro (Nat.le_refl _) ?_ | refine And.intro trivial ?_ | refine And.intro (by show _ ≤ _; (first | omega | (simp only [LS] <;> omega))) ?_)) (by repeat (first | exact trivial | refine And.intro (one_ok (.own _ _ _ _ _ (Nat.le_refl _))) ?_ | refine And.intro (okp (by repeat (first | exact pu_bytes _ | exact pu_nil | exact pu_vs rfl | exact pu_map (fun _ => .v _) _ | exact pu_vals _ | refine pu_app ?_ ?_ | refine pu_cons (by exact pu_of rfl) ?_))) ?_))
          ·
            have p11 := c11
            try simp only [CN] at p11
            refine WC.skip (h19_ _ ?_)
            refine WC.seq fun Fh21_ h21_ => ?_
            refine WC.seq fun Fh22_ h22_ => ?_
            refine WC.region ?_
            refine RG.op _ _ rfl rfl (o_move (.v _) rfl) ?_
            refine RG.op _ _ rfl rfl (o_eqB (b := 0) rfl rfl) ?_
            refine RG.op _ _ rfl rfl (o_move (.v _) rfl) ?_
            refine RG.opg1 _ _ _ _ _ rfl rfl rfl rfl rfl (fun hb => o_move (.v _) rfl) ?_
            refine RG.opg1 _ _ _ _ _ rfl rfl rfl rfl rfl (fun hb => o_gtI (gdT hb) rfl) ?_
            refine RG.op _ _ rfl rfl (o_and _ _ rfl rfl rfl) ?_
            refine RG.nil (h22_ _ ?_)
            refine WC.cond _ rfl (fun c12 => ?_) (fun c12 => ?_)
            ·
              have p12 := c12
              try simp only [CN] at p12
              refine WC.seq fun Fh23_ h23_ => ?_
              refine WC.region ?_
              refine RG.op _ _ rfl rfl (o_assign (N64 0) rfl) ?_
              refine RG.op _ _ rfl rfl (o_assign (.v _) rfl) ?_
              refine RG.op _ _ rfl rfl (o_assign (.v _) rfl) ?_
              refine RG.nil (h23_ _ ?_)
              refine WC.ret ?_
              exact Ends.r3 rfl (.tmp _ (.v _) rfl) (.tmp _ (.v _) rfl) (.tmp _ (.v _) rfl) (.v _) (.v _) (.v _) (vr_eq (by rw [he]; exact getF_zero h10 (nats_at hkb') (by rw [p12.1]; rfl) (by omega)) rfl)
            ·
              have p12 := c12
              try simp only [CN] at p12
              refine WC.skip (h21_ _ ?_)
              refine WC.seq fun Fh24_ h24_ => ?_
              refine WC.region ?_
              refine RG.op _ _ rfl rfl (o_move (.v _) rfl) ?_
              refine RG.op _ _ rfl rfl (o_move (.v _) rfl) ?_
              refine RG.op _ _ rfl rfl (o_add rfl rfl (by first | omega | exact ubyte _ | (simp only [LS] <;> omega)) (by first | omega | exact ubyte _ | (simp only [LS] <;> omega))) ?_
              refine RG.op _ _ rfl rfl (o_assign (.v _) rfl) ?_
              refine RG.op _ _ rfl rfl (o_assign (.v _) rfl) ?_
              refine RG.op _ _ rfl rfl (o_assign (.v _) rfl) ?_
              refine RG.nil (h24_ _ ?_)
              refine WC.ret ?_
              exact Ends.r3 rfl (.tmp _ (.v _) rfl) (.tmp _ (.v _) rfl) (.tmp _ (.v _) rfl) (.v _) (.v _) (.v _) (vr_eq (by rw [he]; exact (getF_done h10 (nats_at hkb') (by omega) (by omega) (fun h => by have : b[p.1] = 0 := UInt8.toNat_inj.1 h.1; rcases p12 with h1 | h1; exact h1 this; omega)).trans (by rw [and_127, (or_stepN (y := b[p.1].toNat % 128) h10 (Nat.mod_lt _ (by decide)) h9 ha).1])) (by omega))
    ·
      have p3 := c3
      try simp only [CN] at p3
      refine WC.exit (h3_ _ ?_)
      refine WC.seq fun Fh25_ h25_ => ?_
      refine WC.region ?_
      refine RG.op _ _ rfl rfl (o_assign (N64 0) rfl) ?_
      refine RG.op _ _ rfl rfl (o_assign (.v _) rfl) ?_
      refine RG.op _ _ rfl rfl (o_assign (.v _) rfl) ?_
      refine RG.nil (h25_ _ ?_)
      refine WC.ret ?_
      exact Ends.r3 rfl (.tmp _ (.v _) rfl) (.tmp _ (.v _) rfl) (.tmp _ (.v _) rfl) (.v _) (.v _) (.v _) (vr_eq (by rw [he, show p.1 = 10 by omega]; exact getF_ten _ _) rfl)
end Go.Proofs.Ytpdjcfhmdeeikaa

namespace Go.Proofs.Ytpdjcfhmdeeikaa
open Go.RowKit Go.DL

/-- May a value be? -/
def mayM (v : Val) : Bool := !(decide ((3 : UInt8).toNat < v.k.toNat) || (v.k != 3 && !(v.t == []))) && ((v.k == 2 || decide (v.i = 0)) || (v.k == 1 && decide (v.i = 1)))
set_option maxHeartbeats 4000000 in
theorem may_c (k : UInt8) (i : Int) (t : List UInt8) : Fun Try.prog 18 [VD ⟨k, i, t⟩] (· = Bo (mayM ⟨k, i, t⟩)) := by
  refine Fun.of Try.func18 rfl (Nat.le_of_ble_eq_true rfl) fun C => ?_
  refine WC.seq fun Fh1_ h1_ => ?_
  refine WC.region ?_
  refine RG.op _ _ rfl rfl (o_box (d := .agg [_, _, _]) rfl rfl) ?_
  refine RG.op _ _ rfl rfl (o_assign (.v _) rfl) ?_
  refine RG.nil (h1_ _ ?_)
  refine WC.seq fun Fh2_ h2_ => ?_
  refine WC.seq fun Fh3_ h3_ => ?_
  refine WC.region ?_
  refine RG.op _ _ rfl rfl (o_fld_ptr rfl Try.underlying36 rfl (sz_of Ty.inf5) (by decide)) ?_
  refine RG.op _ _ rfl rfl (o_load_ptr rfl Try.underlying5 rfl rfl rfl rfl) ?_
  refine RG.op _ _ rfl rfl (o_gtB (b := 3) rfl rfl) ?_
  refine RG.op _ _ rfl rfl (o_move (.v _) rfl) ?_
  refine RG.opg1 _ _ _ _ _ rfl rfl rfl rfl rfl (fun hb => o_fld_ptr rfl Try.underlying36 rfl (sz_of Ty.inf5) (by decide)) ?_
  refine RG.opg1 _ _ _ _ _ rfl rfl rfl rfl rfl (fun hb => o_load_ptr (gdT hb) Try.underlying5 rfl rfl rfl rfl) ?_
  refine RG.opg1 _ _ _ _ _ rfl rfl rfl rfl rfl (fun hb => o_neB (b := 3) (gdT hb) rfl) ?_
  refine RG.opg1 _ _ _ _ _ rfl rfl rfl rfl rfl (fun hb => o_move (.v _) (gdT hb)) ?_
  refine RG.opg2 _ _ _ _ _ _ rfl rfl rfl rfl rfl (fun hb => o_fld_ptr rfl Try.underlying36 rfl (sz_of Ty.inf9) (by decide)) ?_
  refine RG.opg2 _ _ _ _ _ _ rfl rfl rfl rfl rfl (fun hb => o_load_ptr (gdT hb) Try.underlying9 rfl rfl rfl rfl) ?_
  refine RG.opg2 _ _ _ _ _ _ rfl rfl rfl rfl rfl (fun hb => o_neS' (m := ([] : List UInt8)) (gdT hb) rfl) ?_
  refine RG.opg1 _ _ _ _ _ rfl rfl rfl rfl rfl (fun hb => o_and _ _ (gdT hb) (gdS hb) rfl) ?_
  refine RG.op _ _ rfl rfl (o_or _ _ rfl rfl rfl) ?_
  refine RG.nil (h3_ _ ?_)
  refine WC.cond _ rfl (fun c1 => ?_) (fun c1 => ?_)
  ·
    have p1 := c1
    try simp only [CN] at p1
    refine WC.seq fun Fh4_ h4_ => ?_
    refine WC.region ?_
    refine RG.op _ _ rfl rfl (o_assign (.v _) rfl) ?_
    refine RG.nil (h4_ _ ?_)
    refine WC.ret ?_
    exact Ends.r1 rfl (.tmp _ (.v _) rfl) (.v _) (congrArg Bo (by unfold mayM; simp only []; rw [c1]; rfl))
  ·
    have p1 := c1
    try simp only [CN] at p1
    refine WC.skip (h2_ _ ?_)
    refine WC.seq fun Fh5_ h5_ => ?_
    refine WC.region ?_
    refine RG.op _ _ rfl rfl (o_fld_ptr rfl Try.underlying36 rfl (sz_of Ty.inf5) (by decide)) ?_
    refine RG.op _ _ rfl rfl (o_load_ptr rfl Try.underlying5 rfl rfl rfl rfl) ?_
    refine RG.op _ _ rfl rfl (o_eqB (b := 2) rfl rfl) ?_
    refine RG.op _ _ rfl rfl (o_move (.v _) rfl) ?_
    refine RG.opg1 _ _ _ _ _ rfl rfl rfl rfl rfl (fun hb => o_fld_ptr rfl Try.underlying36 rfl (sz_of Ty.inf2) (by decide)) ?_
    refine RG.opg1 _ _ _ _ _ rfl rfl rfl rfl rfl (fun hb => o_load_ptr (gdT hb) Try.underlying2 rfl rfl rfl rfl) ?_
    refine RG.opg1 _ _ _ _ _ rfl rfl rfl rfl rfl (fun hb => o_eqI (gdT hb) rfl) ?_
    refine RG.op _ _ rfl rfl (o_or _ _ rfl rfl rfl) ?_
    refine RG.op _ _ rfl rfl (o_move (.v _) rfl) ?_
    refine RG.opg1 _ _ _ _ _ rfl rfl rfl rfl rfl (fun hb => o_fld_ptr rfl Try.underlying36 rfl (sz_of Ty.inf5) (by decide)) ?_
    refine RG.opg1 _ _ _ _ _ rfl rfl rfl rfl rfl (fun hb => o_load_ptr (gdT hb) Try.underlying5 rfl rfl rfl rfl) ?_
    refine RG.opg1 _ _ _ _ _ rfl rfl rfl rfl rfl (fun hb => o_eqB (b := 1) (gdT hb) rfl) ?_
    refine RG.opg1 _ _ _ _ _ rfl rfl rfl rfl rfl (fun hb => o_move (.v _) (gdT hb)) ?_
    refine RG.opg2 _ _ _ _ _ _ rfl rfl rfl rfl rfl (fun hb => o_fld_ptr rfl Try.underlying36 rfl (sz_of Ty.inf2) (by decide)) ?_
    refine RG.opg2 _ _ _ _ _ _ rfl rfl rfl rfl rfl (fun hb => o_load_ptr (gdT hb) Try.underlying2 rfl rfl rfl rfl) ?_
    refine RG.opg2 _ _ _ _ _ _ rfl rfl rfl rfl rfl (fun hb => o_eqI (gdT hb) rfl) ?_
    refine RG.opg1 _ _ _ _ _ rfl rfl rfl rfl rfl (fun hb => o_and _ _ (gdT hb) (gdS hb) rfl) ?_
    refine RG.op _ _ rfl rfl (o_or _ _ rfl rfl rfl) ?_
    refine RG.op _ _ rfl rfl (o_assign (.v _) rfl) ?_
    refine RG.nil (h5_ _ ?_)
    refine WC.ret ?_
    exact Ends.r1 rfl (.tmp _ (.v _) rfl) (.v _) (congrArg Bo (by unfold mayM; simp only []; rw [c1]; rfl))
theorem may_cv (v : Val) : Fun Try.prog 18 [VD v] (· = Bo (mayM v)) := may_c v.k v.i v.t
def lessM (a b : Val) : Bool := bif a.k != b.k then decide (a.k.toNat < b.k.toNat) else bif a.k == 3 then bless a.t b.t else decide (a.i < b.i)
set_option maxHeartbeats 4000000 in
theorem less_c (a b : Val) : Fun Try.prog 22 [VD a, VD b] (· = Bo (lessM a b)) := by
  refine Fun.of Try.func22 rfl (Nat.le_of_ble_eq_true rfl) fun C => ?_
  refine WC.seq fun Fh1_ h1_ => ?_
  refine WC.region ?_
  refine RG.op _ _ rfl rfl (o_box (d := .agg [_, _, _]) rfl rfl) ?_
  refine RG.op _ _ rfl rfl (o_box (d := .agg [_, _, _]) rfl rfl) ?_
  refine RG.op _ _ rfl rfl (o_assign (.v _) rfl) ?_
  refine RG.nil (h1_ _ ?_)
  refine WC.seq fun Fh2_ h2_ => ?_
  refine WC.seq fun Fh3_ h3_ => ?_
  refine WC.region ?_
  refine RG.op _ _ rfl rfl (o_fld_ptr rfl Try.underlying36 rfl (sz_of Ty.inf5) (by decide)) ?_
  refine RG.op _ _ rfl rfl (o_load_ptr rfl Try.underlying5 rfl rfl rfl rfl) ?_
  refine RG.op _ _ rfl rfl (o_fld_ptr rfl Try.underlying36 rfl (sz_of Ty.inf5) (by decide)) ?_
  refine RG.op _ _ rfl rfl (o_load_ptr rfl Try.underlying5 rfl rfl rfl rfl) ?_
  refine RG.op _ _ rfl rfl (o_neB rfl rfl) ?_
  refine RG.nil (h3_ _ ?_)
  refine WC.cond _ rfl (fun c1 => ?_) (fun c1 => ?_)
  ·
    have p1 := c1
    try simp only [CN] at p1
    refine WC.seq fun Fh4_ h4_ => ?_
    refine WC.region ?_
    refine RG.op _ _ rfl rfl (o_fld_ptr rfl Try.underlying36 rfl (sz_of Ty.inf5) (by decide)) ?_
    refine RG.op _ _ rfl rfl (o_load_ptr rfl Try.underlying5 rfl rfl rfl rfl) ?_
    refine RG.op _ _ rfl rfl (o_fld_ptr rfl Try.underlying36 rfl (sz_of Ty.inf5) (by decide)) ?_
    refine RG.op _ _ rfl rfl (o_load_ptr rfl Try.underlying5 rfl rfl rfl rfl) ?_
    refine RG.op _ _ rfl rfl (o_ltB rfl rfl) ?_
    refine RG.op _ _ rfl rfl (o_assign (.v _) rfl) ?_
    refine RG.nil (h4_ _ ?_)
    refine WC.ret ?_
    exact Ends.r1 rfl (.tmp _ (.v _) rfl) (.v _) (by unfold lessM; rw [c1]; rfl)
  ·
    have p1 := c1
    try simp only [CN] at p1
    refine WC.skip (h2_ _ ?_)
    refine WC.seq fun Fh5_ h5_ => ?_
    refine WC.seq fun Fh6_ h6_ => ?_
    refine WC.region ?_
    refine RG.op _ _ rfl rfl (o_fld_ptr rfl Try.underlying36 rfl (sz_of Ty.inf5) (by decide)) ?_
    refine RG.op _ _ rfl rfl (o_load_ptr rfl Try.underlying5 rfl rfl rfl rfl) ?_
    refine RG.op _ _ rfl rfl (o_eqB (b := 3) rfl rfl) ?_
    refine RG.nil (h6_ _ ?_)
    refine WC.cond _ rfl (fun c3 => ?_) (fun c3 => ?_)
    ·
      have p3 := c3
      try simp only [CN] at p3
      refine WC.seq fun Fh7_ h7_ => ?_
      refine WC.region ?_
      refine RG.op _ _ rfl rfl (o_fld_ptr rfl Try.underlying36 rfl (sz_of Ty.inf9) (by decide)) ?_
      refine RG.op _ _ rfl rfl (o_load_ptr rfl Try.underlying9 rfl rfl rfl rfl) ?_
      refine RG.op _ _ rfl rfl (o_fld_ptr rfl Try.underlying36 rfl (sz_of Ty.inf9) (by decide)) ?_
      refine RG.op _ _ rfl rfl (o_load_ptr rfl Try.underlying9 rfl rfl rfl rfl) ?_
      refine RG.op _ _ rfl rfl (o_ltS rfl rfl) ?_
      refine RG.op _ _ rfl rfl (o_assign (.v _) rfl) ?_
      refine RG.nil (h7_ _ ?_)
      refine WC.ret ?_
      exact Ends.r1 rfl (.tmp _ (.v _) rfl) (.v _) (by unfold lessM; rw [c1, c3]; rfl)
    ·
      have p3 := c3
      try simp only [CN] at p3
      refine WC.skip (h5_ _ ?_)
      refine WC.seq fun Fh8_ h8_ => ?_
      refine WC.region ?_
      refine RG.op _ _ rfl rfl (o_fld_ptr rfl Try.underlying36 rfl (sz_of Ty.inf2) (by decide)) ?_
      refine RG.op _ _ rfl rfl (o_load_ptr rfl Try.underlying2 rfl rfl rfl rfl) ?_
      refine RG.op _ _ rfl rfl (o_fld_ptr rfl Try.underlying36 rfl (sz_of Ty.inf2) (by decide)) ?_
      refine RG.op _ _ rfl rfl (o_load_ptr rfl Try.underlying2 rfl rfl rfl rfl) ?_
      refine RG.op _ _ rfl rfl (o_ltI rfl rfl) ?_
      refine RG.op _ _ rfl rfl (o_assign (.v _) rfl) ?_
      refine RG.nil (h8_ _ ?_)
      refine WC.ret ?_
      exact Ends.r1 rfl (.tmp _ (.v _) rfl) (.v _) (by unfold lessM; rw [c1, c3]; rfl)
end Go.Proofs.Ytpdjcfhmdeeikaa
namespace Go.Proofs.Ytpdjcfhmdeeikaa
open Go.RowKit Go.DL

theorem any_step {α : Type} {l : List α} {k : Nat} (h : k < l.length) {f : α → Bool} (ha : (l.take k).any f = false) (hk : f l[k] = false) : (l.take (k + 1)).any f = false := by
  rw [List.take_succ_eq_append_getElem h, List.any_append, ha]; simp [hk]
theorem any_stop {α : Type} {l : List α} {k : Nat} (h : k < l.length) {f : α → Bool} (hk : f l[k] = true) : l.any f = true := by
  rw [List.any_eq_true]; exact ⟨l[k], List.getElem_mem h, hk⟩
theorem all_step {α : Type} {l : List α} {k : Nat} (h : k < l.length) {f : α → Bool} (ha : (l.take k).all f = true) (hk : f l[k] = true) : (l.take (k + 1)).all f = true := by
  rw [List.take_succ_eq_append_getElem h, List.all_append, ha]; simp [hk]
theorem all_stop {α : Type} {l : List α} {k : Nat} (h : k < l.length) {f : α → Bool} (hk : f l[k] = false) : l.all f = false := by
  rw [List.all_eq_false]; exact ⟨l[k], List.getElem_mem h, by simp [hk]⟩
end Go.Proofs.Ytpdjcfhmdeeikaa
namespace Go.Proofs.Ytpdjcfhmdeeikaa
open Go.RowKit Go.DL

/-- A number's eight bytes, the highest first. -/
def hi8 (u : Nat) : List UInt8 := (List.range 8).map fun i => UInt8.ofNat (u / 256 ^ (7 - i))
theorem hi8_len (u : Nat) : (hi8 u).length = 8 := by simp [hi8]
end Go.Proofs.Ytpdjcfhmdeeikaa
namespace Go.Proofs.Ytpdjcfhmdeeikaa
open Go.RowKit Go.DL

def esc1 (c : UInt8) : List UInt8 := bif c == 0 then [0, 255] else [c]
def escM (t : List UInt8) : List UInt8 := t.flatMap esc1
/-- A value's bytes. -/
def oneM (v : Val) : List UInt8 := (v.k + 1) :: (bif v.k == 1 then [UInt8.ofNat (v.i % 256).toNat] else bif v.k == 2 then hi8 (((v.i % 18446744073709551616).toNat + 9223372036854775808) % 18446744073709551616) else bif v.k == 3 then escM v.t ++ [0, 1] else [])
theorem esc1_len (c : UInt8) : (esc1 c).length ≤ 2 := by unfold esc1; cases c == 0 <;> simp
theorem escM_len : ∀ t : List UInt8, (escM t).length ≤ 2 * t.length
  | [] => by simp [escM]
  | c :: t => by
    have h1 := escM_len t
    have h2 := esc1_len c
    simp only [escM, List.flatMap_cons, List.length_append, List.length_cons] at *
    omega
theorem esc_step {t : List UInt8} {k : Nat} (h : k < t.length) : escM (t.take (k + 1)) = escM (t.take k) ++ esc1 t[k] := by
  unfold escM
  rw [List.take_succ_eq_append_getElem h, List.flatMap_append]; simp
theorem oneM_len (v : Val) : (oneM v).length ≤ 2 * v.t.length + 11 := by
  have := escM_len v.t
  unfold oneM
  cases v.k == 1 <;> cases v.k == 2 <;> cases v.k == 3 <;> simp [hi8_len] <;> omega
/-- A row's bytes behind others; nothing where a value may not be. -/
def appM (b : List UInt8) (l : List Val) : Option (List UInt8) := bif l.all mayM then some (b ++ l.flatMap oneM) else none
def resA (o : Option (List UInt8)) : D := .tup [rdB (o.getD []), I64 (bif o.isSome then 0 else 1)]
/-- How many bytes a row may have, at most. -/
def szM (l : List Val) : Nat := (l.map fun v => 2 * v.t.length + 11).sum
theorem szM_step {l : List Val} {k : Nat} (h : k < l.length) : szM (l.take (k + 1)) = szM (l.take k) + (2 * l[k].t.length + 11) := by
  unfold szM
  rw [List.take_succ_eq_append_getElem h, List.map_append, List.sum_append]; simp
theorem szM_take (l : List Val) (k : Nat) : szM (l.take k) ≤ szM l := by
  conv => rhs; rw [← List.take_append_drop k l]
  unfold szM
  rw [List.map_append, List.sum_append]; omega
theorem szM_ge (l : List Val) : 11 * l.length ≤ szM l := by
  induction l with
  | nil => simp [szM]
  | cons v l ih => simp only [szM, List.map_cons, List.sum_cons, List.length_cons] at *; omega
theorem ones_len (l : List Val) : (l.flatMap oneM).length ≤ szM l := by
  induction l with
  | nil => simp
  | cons v l ih =>
    have := oneM_len v
    simp only [szM, List.flatMap_cons, List.length_append, List.map_cons, List.sum_cons] at *; omega
theorem ones_step {l : List Val} {k : Nat} (h : k < l.length) : (l.take (k + 1)).flatMap oneM = (l.take k).flatMap oneM ++ oneM l[k] := by
  rw [List.take_succ_eq_append_getElem h, List.flatMap_append]; simp
end Go.Proofs.Ytpdjcfhmdeeikaa
namespace Go.Proofs.Ytpdjcfhmdeeikaa
open Go.RowKit Go.DL

theorem xor_top (a : Nat) (h : a < 18446744073709551616) : a ^^^ 9223372036854775808 = (a + 9223372036854775808) % 18446744073709551616 := by
  have e : a = 2 ^ 63 * (a / 2 ^ 63) + a % 2 ^ 63 := by omega
  have hm : a % 2 ^ 63 < 2 ^ 63 := Nat.mod_lt _ (by omega)
  have hq : a / 2 ^ 63 = 0 ∨ a / 2 ^ 63 = 1 := by omega
  have hr : (a + 9223372036854775808) % 18446744073709551616 = 2 ^ 63 * (1 - a / 2 ^ 63) + a % 2 ^ 63 := by omega
  rw [hr]
  apply Nat.eq_of_testBit_eq
  intro j
  rw [Nat.testBit_xor, Nat.testBit_two_pow_mul_add _ hm, show (9223372036854775808 : Nat) = 2 ^ 63 by rfl, Nat.testBit_two_pow]
  conv => lhs; lhs; rw [e, Nat.testBit_two_pow_mul_add _ hm]
  by_cases hj : j < 63
  · have h3 : ¬ 63 = j := by omega
    simp [hj, h3]
  · simp only [hj, if_false]
    rcases hq with h0 | h0
    · rw [h0]
      by_cases h1 : j = 63
      · subst h1; rfl
      · have h2 : j - 63 ≠ 0 := by omega
        have h3 : ¬ 63 = j := by omega
        simp [h3]
        rw [show (1 : Nat) = 2 ^ 0 by rfl, Nat.testBit_two_pow]
        simp; omega
    · rw [h0]
      by_cases h1 : j = 63
      · subst h1; rfl
      · have h3 : ¬ 63 = j := by omega
        simp [h3]
        rw [show (1 : Nat) = 2 ^ 0 by rfl, Nat.testBit_two_pow]
        simp; omega
theorem hi8_take {u j : Nat} (h : j < 8) : (hi8 u).take (j + 1) = (hi8 u).take j ++ [UInt8.ofNat (u / 256 ^ (7 - j))] := by
  rw [List.take_succ_eq_append_getElem (by rw [hi8_len]; exact h)]
  congr 1
  simp [hi8]
theorem shift_eq {j : Nat} (h : j < 8) : 2 ^ ((56 - 8 * (j : Int)) % 18446744073709551616).toNat = 256 ^ (7 - j) := by
  rw [show ((56 - 8 * (j : Int)) % 18446744073709551616).toNat = 8 * (7 - j) by omega, Nat.pow_mul]
abbrev keyI (v : Int) : Nat := ((v % 18446744073709551616).toNat + 9223372036854775808) % 18446744073709551616
set_option maxHeartbeats 4000000 in
theorem appendInt_c (l : List UInt8) (v : Int) (hl : l.length ≤ 10995116277760) : FunM Try.prog 41 [ow 0 l.length 1, I64 v] [tb 5 l.length (bytesD l)] (fun o H' => o = .ret (ow 0 (l.length + 9) 1) ∧ H' = [tb 5 (l.length + 9) (bytesD (l ++ 3 :: hi8 (keyI v)))]) := by
  refine FunM.of Try.func41 rfl (Nat.le_of_ble_eq_true rfl) fun C => ?_
  refine WC.seq fun Fh1_ h1_ => ?_
  refine WC.region ?_
  refine RG.op _ _ rfl rfl (o_assign (.v _) rfl) ?_
  refine RG.nil (h1_ _ ?_)
  refine WC.seq fun Fh2_ h2_ => ?_
  refine WC.region ?_
  refine RG.op _ _ rfl rfl (o_move (.v _) rfl) ?_
  refine RG.op _ _ rfl rfl (o_i64toU rfl Try.underlying2 Try.underlying69) ?_
  refine RG.op _ _ rfl rfl (o_xorU (b := 9223372036854775808) rfl rfl (by first | omega | exact ubyte _ | (simp only [LS, hi8_len] <;> omega)) (by first | omega | exact ubyte _ | (simp only [LS, hi8_len] <;> omega))) ?_
  refine RG.op _ _ rfl rfl (o_assign (.v _) rfl) ?_
  refine RG.nil (h2_ _ ?_)
  refine WC.seq fun Fh3_ h3_ => ?_
  refine WC.region ?_
  refine RG.op _ _ rfl rfl (o_move (.own _ _ _ _ _) rfl) ?_
  refine RG.op _ _ rfl rfl (o_litP (cs := [(B8 3)]) Try.underlying24 Ty.inf5 rfl rfl rfl rfl (by repeat (first | exact pu_bytes _ | exact pu_nil | exact pu_vs rfl | exact pu_map (fun _ => .v _) _ | exact pu_vals _ | refine pu_app ?_ ?_ | refine pu_cons (by exact pu_of rfl) ?_))) ?_
  refine RG.op _ _ rfl rfl (o_appT (Elem.of Try.underlying24 Ty.inf5 rfl (by decide)) rfl rfl rfl (by first | omega | exact ubyte _ | (simp only [LS, hi8_len] <;> omega)) (by first | omega | exact ubyte _ | (simp only [LS, hi8_len] <;> omega)) (by repeat (first | exact bytesD_one _ | exact one_nil | exact one_map (fun _ => rfl) _ | exact one_vals _ | refine one_app ?_ ?_ | refine one_cons rfl ?_)) (by first | omega | exact ubyte _ | (simp only [LS, hi8_len] <;> omega)) (by first | omega | exact ubyte _ | (simp only [LS, hi8_len] <;> omega))) ?_
  refine RG.op _ _ rfl rfl (o_assign (.own _ _ _ _ _) rfl) ?_
  refine RG.nil (h3_ _ ?_)
  refine WC.seq fun Fh4_ h4_ => ?_
  refine WC.seq fun Fh5_ h5_ => ?_
  refine WC.region ?_
  refine RG.op _ _ rfl rfl (o_assign (.v _) rfl) ?_
  refine RG.nil (h5_ _ ?_)
  refine WC.block ?_
  refine WC.loopU [0, 6, 13, 14, 15, 16, 17, 18, 19, 20, 21, 22, 23, 24] (fun (j : Nat) => [(6, I64 (56 - 8 * (j : Int))), (0, ow 0 (l.length + 1 + j) 1)]) (fun (j : Nat) => [(0, tb 5 (l.length + 1 + j) (bytesD (l ++ 3 :: (hi8 (keyI v)).take j)))]) (fun (j : Nat) => j ≤ 8) (fun (j : Nat) => 8 - j) 0 (by first | omega | exact ubyte _ | (simp only [LS, hi8_len] <;> omega)) ?lpa6_ ?lpb7_
  case lpa6_ =>
    exact .mk' ⟨⟨congrArg I64 (by omega), .v _⟩, ⟨ow_eq (by omega), (by first | exact .own _ _ _ _ _ (Nat.le_refl _) | exact .ptr _ _ _ (Nat.le_refl _) | exact .omp _ _ (Nat.le_refl _))⟩, trivial⟩ (same_refl _ _) (congrArg (fun c => [c]) (tb_eq rfl (by simp [bytesD]))) (by repeat (first | exact trivial | refine And.intro (Nat.le_refl _) ?_ | refine And.intro trivial ?_ | refine And.intro (by show _ ≤ _; (first | omega | (simp only [LS, hi8_len] <;> omega))) ?_)) (by repeat (first | exact trivial | refine And.intro (one_ok (.own _ _ _ _ _ (Nat.le_refl _))) ?_ | refine And.intro (okp (by repeat (first | exact pu_bytes _ | exact pu_nil | exact pu_vs rfl | exact pu_map (fun _ => .v _) _ | exact pu_vals _ | refine pu_app ?_ ?_ | refine pu_cons (by exact pu_of rfl) ?_))) ?_))
  case lpb7_ =>
    rintro j hI
    refine WC.seq fun Fh8_ h8_ => ?_
    refine WC.seq fun Fh9_ h9_ => ?_
    refine WC.region ?_
    refine RG.op _ _ rfl rfl (o_move (.v _) rfl) ?_
    refine RG.op _ _ rfl rfl (o_geI rfl rfl) ?_
    refine RG.nil (h9_ _ ?_)
    refine WC.cond _ rfl (fun c4 => ?_) (fun c4 => ?_)
    ·
      have p4 := c4
      try simp only [CN] at p4
      have hj : j < 8 := by omega
      refine WC.skip (h8_ _ ?_)
      refine WC.seq fun Fh10_ h10_ => ?_
      refine WC.block ?_
      refine WC.region ?_
      refine RG.op _ _ rfl rfl (o_move (.own _ _ _ _ _) rfl) ?_
      refine RG.op _ _ rfl rfl (o_move (.v _) rfl) ?_
      refine RG.op _ _ rfl rfl (o_move (.v _) rfl) ?_
      refine RG.op _ _ rfl rfl (o_i64toU rfl Try.underlying3 Try.underlying66) ?_
      refine RG.op _ _ rfl rfl (o_shrU rfl rfl (by show _ ≤ 64; (first | omega | (simp only [LS, hi8_len] <;> omega)))) ?_
      refine RG.op _ _ rfl rfl (o_UtoB rfl Try.underlying69 Try.underlying5) ?_
      refine RG.op _ _ rfl rfl (o_litP (cs := [(.v _)]) Try.underlying24 Ty.inf5 rfl rfl rfl rfl (by repeat (first | exact pu_bytes _ | exact pu_nil | exact pu_vs rfl | exact pu_map (fun _ => .v _) _ | exact pu_vals _ | refine pu_app ?_ ?_ | refine pu_cons (by exact pu_of rfl) ?_))) ?_
      refine RG.op _ _ rfl rfl (o_appT (Elem.of Try.underlying24 Ty.inf5 rfl (by decide)) rfl rfl rfl (by first | omega | exact ubyte _ | (simp only [LS, hi8_len] <;> omega)) (by first | omega | exact ubyte _ | (simp only [LS, hi8_len] <;> omega)) (by repeat (first | exact bytesD_one _ | exact one_nil | exact one_map (fun _ => rfl) _ | exact one_vals _ | refine one_app ?_ ?_ | refine one_cons rfl ?_)) (by first | omega | exact ubyte _ | (simp only [LS, hi8_len] <;> omega)) (by first | omega | exact ubyte _ | (simp only [LS, hi8_len] <;> omega))) ?_
      refine RG.op _ _ rfl rfl (o_assign (.own _ _ _ _ _) rfl) ?_
      refine RG.nil (h10_ _ ?_)
      refine WC.region ?_
      refine RG.op _ _ rfl rfl (o_move (.v _) rfl) ?_
      refine RG.op _ _ rfl rfl (o_sub rfl rfl (by first | omega | exact ubyte _ | (simp only [LS, hi8_len] <;> omega)) (by first | omega | exact ubyte _ | (simp only [LS, hi8_len] <;> omega))) ?_
      refine RG.op _ _ rfl rfl (o_assign (.v _) rfl) ?_
      refine RG.nil (Exists.intro (j + 1) ⟨by first | omega | (simp only [LS, hi8_len] <;> omega), by first | omega | (simp only [LS, hi8_len] <;> omega), ?_⟩)
      exact .mk' ⟨⟨congrArg I64 (by omega), .v _⟩, ⟨ow_eq (by omega), (by first | exact .own _ _ _ _ _ (Nat.le_refl _) | exact .ptr _ _ _ (Nat.le_refl _) | exact .omp _ _ (Nat.le_refl _))⟩, trivial⟩ (by repeat (first | with_reducible exact same_refl _ _ | with_reducible refine same_updO (by with_unfolding_all exact rfl) ?_ | with_reducible refine same_updN ?_ | with_reducible refine same_updL (by with_unfolding_all exact rfl) ?_ | with_reducible refine same_forget (by with_unfolding_all exact rfl) ?_)) (congrArg (fun c => [c]) (tb_eq (by omega) (by rw [hi8_take hj, ← List.cons_append, ← List.append_assoc, shift_eq hj, xor_top _ (by omega)]; exact (bytesD_app _ [UInt8.ofNat (keyI v / 256 ^ (7 - j))]).symm))) (by repeat (first | exact trivial | refine And.intro (Nat.le_refl _) ?_ | refine And.intro trivial ?_ | refine And.intro (by show _ ≤ _; (first | omega | (simp only [LS, hi8_len] <;> omega))) ?_)) (by repeat (first | exact trivial | refine And.intro (one_ok (.own _ _ _ _ _ (Nat.le_refl _))) ?_ | refine And.intro (okp (by repeat (first | exact pu_bytes _ | exact pu_nil | exact pu_vs rfl | exact pu_map (fun _ => .v _) _ | exact pu_vals _ | refine pu_app ?_ ?_ | refine pu_cons (by exact pu_of rfl) ?_))) ?_))
    ·
      have p4 := c4
      try simp only [CN] at p4
      refine WC.exit (h4_ _ ?_)
      refine WC.seq fun Fh11_ h11_ => ?_
      refine WC.region ?_
      refine RG.op _ _ rfl rfl (o_move (.own _ _ _ _ _) rfl) ?_
      refine RG.op _ _ rfl rfl (o_assign (.own _ _ _ _ _) rfl) ?_
      refine RG.nil (h11_ _ ?_)
      refine WC.ret ?_
      first | refine endM.mk (H0 := []) 1 [_] rfl rfl (by repeat (first | exact trivial | refine And.intro (one_ok (.own _ _ _ _ _ (Nat.le_refl _))) ?_ | refine And.intro (okp (by repeat (first | exact pu_bytes _ | exact pu_nil | exact pu_vs rfl | exact pu_map (fun _ => .v _) _ | exact pu_vals _ | refine pu_app ?_ ?_ | refine pu_cons (by exact pu_of rfl) ?_))) ?_)) ?_ | (simp only [thenQ, blkQ, noGo]; refine endM.mk (H0 := []) 1 [_] rfl rfl (by repeat (first | exact trivial | refine And.intro (one_ok (.own _ _ _ _ _ (Nat.le_refl _))) ?_ | refine And.intro (okp (by repeat (first | exact pu_bytes _ | exact pu_nil | exact pu_vs rfl | exact pu_map (fun _ => .v _) _ | exact pu_vals _ | refine pu_app ?_ ?_ | refine pu_cons (by exact pu_of rfl) ?_))) ?_)) ?_) | refine endM.mk 1 [_] rfl rfl (by repeat (first | exact trivial | refine And.intro (one_ok (.own _ _ _ _ _ (Nat.le_refl _))) ?_ | refine And.intro (okp (by repeat (first | exact pu_bytes _ | exact pu_nil | exact pu_vs rfl | exact pu_map (fun _ => .v _) _ | exact pu_vals _ | refine pu_app ?_ ?_ | refine pu_cons (by exact pu_of rfl) ?_))) ?_)) ?_
      exact EndsM.r1 rfl (.tmp _ (.own _ _ _ _ _) rfl) (by first | exact .own _ _ _ _ _ (Nat.le_refl _) | exact .v _ | exact Pure'.ok (by exact pu_of rfl) _ | exact .tup _ (by repeat (first | exact ok_nil | refine ok_cons (by first | exact .own _ _ _ _ _ (Nat.le_refl _) | exact .ptr _ _ _ (Nat.le_refl _) | exact .v _ | exact Pure'.ok (by exact pu_of rfl) _) ?_))) (by have e : j = 8 := (by omega); subst e; exact ⟨congrArg DOut.ret (ow_eq (by omega)), congrArg (fun c => [c]) (tb_eq (by omega) (by rw [List.take_of_length_le (by rw [hi8_len]; omega)]))⟩)
set_option maxHeartbeats 4000000 in
theorem appendText_c (l s : List UInt8) (hl : l.length ≤ 10995116277760) (hs : s.length ≤ 1099511627776) : FunM Try.prog 42 [ow 0 l.length 1, S s] [tb 5 l.length (bytesD l)] (fun o H' => o = .ret (ow 0 (l ++ 4 :: (escM s ++ [0, 1])).length 1) ∧ H' = [tb 5 (l ++ 4 :: (escM s ++ [0, 1])).length (bytesD (l ++ 4 :: (escM s ++ [0, 1])))]) := by
  refine FunM.of Try.func42 rfl (Nat.le_of_ble_eq_true rfl) fun C => ?_
  refine WC.seq fun Fh1_ h1_ => ?_
  refine WC.region ?_
  refine RG.op _ _ rfl rfl (o_assign (.v _) rfl) ?_
  refine RG.nil (h1_ _ ?_)
  refine WC.seq fun Fh2_ h2_ => ?_
  refine WC.region ?_
  refine RG.op _ _ rfl rfl (o_move (.own _ _ _ _ _) rfl) ?_
  refine RG.op _ _ rfl rfl (o_litP (cs := [(B8 4)]) Try.underlying24 Ty.inf5 rfl rfl rfl rfl (by repeat (first | exact pu_bytes _ | exact pu_nil | exact pu_vs rfl | exact pu_map (fun _ => .v _) _ | exact pu_vals _ | refine pu_app ?_ ?_ | refine pu_cons (by exact pu_of rfl) ?_))) ?_
  refine RG.op _ _ rfl rfl (o_appT (Elem.of Try.underlying24 Ty.inf5 rfl (by decide)) rfl rfl rfl (by first | omega | exact ubyte _ | (simp only [LS, hi8_len] <;> omega)) (by first | omega | exact ubyte _ | (simp only [LS, hi8_len] <;> omega)) (by repeat (first | exact bytesD_one _ | exact one_nil | exact one_map (fun _ => rfl) _ | exact one_vals _ | refine one_app ?_ ?_ | refine one_cons rfl ?_)) (by first | omega | exact ubyte _ | (simp only [LS, hi8_len] <;> omega)) (by first | omega | exact ubyte _ | (simp only [LS, hi8_len] <;> omega))) ?_
  refine RG.op _ _ rfl rfl (o_assign (.own _ _ _ _ _) rfl) ?_
  refine RG.nil (h2_ _ ?_)
  refine WC.seq fun Fh3_ h3_ => ?_
  refine WC.seq fun Fh4_ h4_ => ?_
  refine WC.region ?_
  refine RG.op _ _ rfl rfl (o_move (.v _) rfl) ?_
  refine RG.op _ _ rfl rfl (o_lenS rfl Try.underlying9) ?_
  refine RG.op _ _ rfl rfl (o_move (.v _) rfl) ?_
  refine RG.nil (h4_ _ ?_)
  refine WC.block ?_
  refine WC.loopU [0, 5, 11, 12, 13, 14, 15, 16, 17, 18, 19, 20, 21, 22, 23, 24, 25, 26, 27] (fun (m : Nat) => [(11, I64 ((m : Nat) : Int)), (0, ow 0 (l.length + 1 + (escM (s.take m)).length) 1)]) (fun (m : Nat) => [(0, tb 5 (l.length + 1 + (escM (s.take m)).length) (bytesD (l ++ 4 :: escM (s.take m))))]) (fun (m : Nat) => m ≤ s.length) (fun (m : Nat) => s.length - m) 0 (by first | omega | exact ubyte _ | (simp only [LS, hi8_len] <;> omega)) ?lpa5_ ?lpb6_
  case lpa5_ =>
    exact .mk' ⟨⟨rfl, .v _⟩, ⟨ow_eq (by simp [escM]), (by first | exact .own _ _ _ _ _ (Nat.le_refl _) | exact .ptr _ _ _ (Nat.le_refl _) | exact .omp _ _ (Nat.le_refl _))⟩, trivial⟩ (same_refl _ _) (congrArg (fun c => [c]) (tb_eq (by simp [escM]) (by simp [escM, bytesD]))) (by repeat (first | exact trivial | refine And.intro (Nat.le_refl _) ?_ | refine And.intro trivial ?_ | refine And.intro (by show _ ≤ _; (first | omega | (simp only [LS, hi8_len] <;> omega))) ?_)) (by repeat (first | exact trivial | refine And.intro (one_ok (.own _ _ _ _ _ (Nat.le_refl _))) ?_ | refine And.intro (okp (by repeat (first | exact pu_bytes _ | exact pu_nil | exact pu_vs rfl | exact pu_map (fun _ => .v _) _ | exact pu_vals _ | refine pu_app ?_ ?_ | refine pu_cons (by exact pu_of rfl) ?_))) ?_))
  case lpb6_ =>
    rintro m hI
    have hm := escM_len (s.take m)
    rw [List.length_take] at hm
    refine WC.seq fun Fh7_ h7_ => ?_
    refine WC.region ?_
    refine RG.op _ _ rfl rfl (o_ltI rfl rfl) ?_
    refine RG.nil (h7_ _ ?_)
    refine WC.seq fun Fh8_ h8_ => ?_
    refine WC.cond _ rfl (fun c3 => ?_) (fun c3 => ?_)
    ·
      have p3 := c3
      try simp only [CN] at p3
      have hmt : m < s.length := by omega
      refine WC.skip (h8_ _ ?_)
      refine WC.seq fun Fh9_ h9_ => ?_
      refine WC.block ?_
      refine WC.seq fun Fh10_ h10_ => ?_
      refine WC.region ?_
      refine RG.op _ _ rfl rfl (o_move (.v _) rfl) ?_
      refine RG.op _ _ rfl rfl (o_assign (.v _) rfl) ?_
      refine RG.nil (h10_ _ ?_)
      refine WC.seq fun Fh11_ h11_ => ?_
      refine WC.region ?_
      refine RG.op _ _ rfl rfl (o_move (.own _ _ _ _ _) rfl) ?_
      refine RG.op _ _ rfl rfl (o_move (.v _) rfl) ?_
      refine RG.op _ _ rfl rfl (o_move (.v _) rfl) ?_
      refine RG.op _ _ rfl rfl (o_ixS m rfl rfl Try.underlying9 (by first | omega | exact ubyte _ | (simp only [LS, hi8_len] <;> omega)) (by first | omega | exact ubyte _ | (simp only [LS, hi8_len] <;> omega))) ?_
      refine RG.op _ _ rfl rfl (o_litP (cs := [(.v _)]) Try.underlying24 Ty.inf5 rfl rfl rfl rfl (by repeat (first | exact pu_bytes _ | exact pu_nil | exact pu_vs rfl | exact pu_map (fun _ => .v _) _ | exact pu_vals _ | refine pu_app ?_ ?_ | refine pu_cons (by exact pu_of rfl) ?_))) ?_
      refine RG.op _ _ rfl rfl (o_appT (Elem.of Try.underlying24 Ty.inf5 rfl (by decide)) rfl rfl rfl (by first | omega | exact ubyte _ | (simp only [LS, hi8_len] <;> omega)) (by first | omega | exact ubyte _ | (simp only [LS, hi8_len] <;> omega)) (by repeat (first | exact bytesD_one _ | exact one_nil | exact one_map (fun _ => rfl) _ | exact one_vals _ | refine one_app ?_ ?_ | refine one_cons rfl ?_)) (by first | omega | exact ubyte _ | (simp only [LS, hi8_len] <;> omega)) (by first | omega | exact ubyte _ | (simp only [LS, hi8_len] <;> omega))) ?_
      refine RG.op _ _ rfl rfl (o_assign (.own _ _ _ _ _) rfl) ?_
      refine RG.nil (h11_ _ ?_)
      refine WC.seq fun Fh12_ h12_ => ?_
      refine WC.region ?_
      refine RG.op _ _ rfl rfl (o_move (.v _) rfl) ?_
      refine RG.op _ _ rfl rfl (o_move (.v _) rfl) ?_
      refine RG.op _ _ rfl rfl (o_ixS m rfl rfl Try.underlying9 (by first | omega | exact ubyte _ | (simp only [LS, hi8_len] <;> omega)) (by first | omega | exact ubyte _ | (simp only [LS, hi8_len] <;> omega))) ?_
      refine RG.op _ _ rfl rfl (o_eqB (b := 0) rfl rfl) ?_
      refine RG.nil (h12_ _ ?_)
      refine WC.cond _ rfl (fun c6 => ?_) (fun c6 => ?_)
      ·
        have p6 := c6
        try simp only [CN] at p6
        refine WC.region ?_
        refine RG.op _ _ rfl rfl (o_move (.own _ _ _ _ _) rfl) ?_
        refine RG.op _ _ rfl rfl (o_litP (cs := [(B8 255)]) Try.underlying24 Ty.inf5 rfl rfl rfl rfl (by repeat (first | exact pu_bytes _ | exact pu_nil | exact pu_vs rfl | exact pu_map (fun _ => .v _) _ | exact pu_vals _ | refine pu_app ?_ ?_ | refine pu_cons (by exact pu_of rfl) ?_))) ?_
        refine RG.op _ _ rfl rfl (o_appT (Elem.of Try.underlying24 Ty.inf5 rfl (by decide)) rfl rfl rfl (by first | omega | exact ubyte _ | (simp only [LS, hi8_len] <;> omega)) (by first | omega | exact ubyte _ | (simp only [LS, hi8_len] <;> omega)) (by repeat (first | exact bytesD_one _ | exact one_nil | exact one_map (fun _ => rfl) _ | exact one_vals _ | refine one_app ?_ ?_ | refine one_cons rfl ?_)) (by first | omega | exact ubyte _ | (simp only [LS, hi8_len] <;> omega)) (by first | omega | exact ubyte _ | (simp only [LS, hi8_len] <;> omega))) ?_
        refine RG.op _ _ rfl rfl (o_assign (.own _ _ _ _ _) rfl) ?_
        refine RG.nil (h9_ _ ?_)
        refine WC.region ?_
        refine RG.op _ _ rfl rfl (o_add rfl rfl (by first | omega | exact ubyte _ | (simp only [LS, hi8_len] <;> omega)) (by first | omega | exact ubyte _ | (simp only [LS, hi8_len] <;> omega))) ?_
        refine RG.op _ _ rfl rfl (o_move (.v _) rfl) ?_
        refine RG.nil (Exists.intro (m + 1) ⟨by first | omega | (simp only [LS, hi8_len] <;> omega), by first | omega | (simp only [LS, hi8_len] <;> omega), ?_⟩)
        exact .mk' ⟨⟨rfl, .v _⟩, ⟨ow_eq (by rw [esc_step hmt, esc1, show (s[m] == 0) = true from c6, List.length_append]; simp only [cond_true, List.length_cons, List.length_nil]; omega), (by first | exact .own _ _ _ _ _ (Nat.le_refl _) | exact .ptr _ _ _ (Nat.le_refl _) | exact .omp _ _ (Nat.le_refl _))⟩, trivial⟩ (by repeat (first | with_reducible exact same_refl _ _ | with_reducible refine same_updO (by with_unfolding_all exact rfl) ?_ | with_reducible refine same_updN ?_ | with_reducible refine same_updL (by with_unfolding_all exact rfl) ?_ | with_reducible refine same_forget (by with_unfolding_all exact rfl) ?_)) (congrArg (fun c => [c]) (tb_eq (by rw [esc_step hmt, esc1, show (s[m] == 0) = true from c6, List.length_append]; simp only [cond_true, List.length_cons, List.length_nil]; omega) (by rw [esc_step hmt, esc1, show (s[m] == 0) = true from c6]; have e : s[m] = 0 := p6; simp [bytesD, e]))) (by repeat (first | exact trivial | refine And.intro (Nat.le_refl _) ?_ | refine And.intro trivial ?_ | refine And.intro (by show _ ≤ _; (first | omega | (simp only [LS, hi8_len] <;> omega))) ?_)) (by repeat (first | exact trivial | refine And.intro (one_ok (.own _ _ _ _ _ (Nat.le_refl _))) ?_ | refine And.intro (okp (by repeat (first | exact pu_bytes _ | exact pu_nil | exact pu_vs rfl | exact pu_map (fun _ => .v _) _ | exact pu_vals _ | refine pu_app ?_ ?_ | refine pu_cons (by exact pu_of rfl) ?_))) ?_))
      ·
        have p6 := c6
        try simp only [CN] at p6
        refine WC.skip (h9_ _ ?_)
        refine WC.region ?_
        refine RG.op _ _ rfl rfl (o_add rfl rfl (by first | omega | exact ubyte _ | (simp only [LS, hi8_len] <;> omega)) (by first | omega | exact ubyte _ | (simp only [LS, hi8_len] <;> omega))) ?_
        refine RG.op _ _ rfl rfl (o_move (.v _) rfl) ?_
        refine RG.nil (Exists.intro (m + 1) ⟨by first | omega | (simp only [LS, hi8_len] <;> omega), by first | omega | (simp only [LS, hi8_len] <;> omega), ?_⟩)
        exact .mk' ⟨⟨rfl, .v _⟩, ⟨ow_eq (by rw [esc_step hmt, esc1, show (s[m] == 0) = false from c6, List.length_append]; simp only [cond_false, List.length_cons, List.length_nil]; omega), (by first | exact .own _ _ _ _ _ (Nat.le_refl _) | exact .ptr _ _ _ (Nat.le_refl _) | exact .omp _ _ (Nat.le_refl _))⟩, trivial⟩ (by repeat (first | with_reducible exact same_refl _ _ | with_reducible refine same_updO (by with_unfolding_all exact rfl) ?_ | with_reducible refine same_updN ?_ | with_reducible refine same_updL (by with_unfolding_all exact rfl) ?_ | with_reducible refine same_forget (by with_unfolding_all exact rfl) ?_)) (congrArg (fun c => [c]) (tb_eq (by rw [esc_step hmt, esc1, show (s[m] == 0) = false from c6, List.length_append]; simp only [cond_false, List.length_cons, List.length_nil]; omega) (by rw [esc_step hmt, esc1, show (s[m] == 0) = false from c6]; simp [bytesD]))) (by repeat (first | exact trivial | refine And.intro (Nat.le_refl _) ?_ | refine And.intro trivial ?_ | refine And.intro (by show _ ≤ _; (first | omega | (simp only [LS, hi8_len] <;> omega))) ?_)) (by repeat (first | exact trivial | refine And.intro (one_ok (.own _ _ _ _ _ (Nat.le_refl _))) ?_ | refine And.intro (okp (by repeat (first | exact pu_bytes _ | exact pu_nil | exact pu_vs rfl | exact pu_map (fun _ => .v _) _ | exact pu_vals _ | refine pu_app ?_ ?_ | refine pu_cons (by exact pu_of rfl) ?_))) ?_))
    ·
      have p3 := c3
      try simp only [CN] at p3
      refine WC.exit (h3_ _ ?_)
      refine WC.seq fun Fh13_ h13_ => ?_
      refine WC.region ?_
      refine RG.op _ _ rfl rfl (o_move (.own _ _ _ _ _) rfl) ?_
      refine RG.op _ _ rfl rfl (o_litP (cs := [(B8 0), (B8 1)]) Try.underlying24 Ty.inf5 rfl rfl rfl rfl (by repeat (first | exact pu_bytes _ | exact pu_nil | exact pu_vs rfl | exact pu_map (fun _ => .v _) _ | exact pu_vals _ | refine pu_app ?_ ?_ | refine pu_cons (by exact pu_of rfl) ?_))) ?_
      refine RG.op _ _ rfl rfl (o_appT (Elem.of Try.underlying24 Ty.inf5 rfl (by decide)) rfl rfl rfl (by first | omega | exact ubyte _ | (simp only [LS, hi8_len] <;> omega)) (by first | omega | exact ubyte _ | (simp only [LS, hi8_len] <;> omega)) (by repeat (first | exact bytesD_one _ | exact one_nil | exact one_map (fun _ => rfl) _ | exact one_vals _ | refine one_app ?_ ?_ | refine one_cons rfl ?_)) (by first | omega | exact ubyte _ | (simp only [LS, hi8_len] <;> omega)) (by first | omega | exact ubyte _ | (simp only [LS, hi8_len] <;> omega))) ?_
      refine RG.op _ _ rfl rfl (o_assign (.own _ _ _ _ _) rfl) ?_
      refine RG.nil (h13_ _ ?_)
      refine WC.ret ?_
      first | refine endM.mk (H0 := []) 1 [_] rfl rfl (by repeat (first | exact trivial | refine And.intro (one_ok (.own _ _ _ _ _ (Nat.le_refl _))) ?_ | refine And.intro (okp (by repeat (first | exact pu_bytes _ | exact pu_nil | exact pu_vs rfl | exact pu_map (fun _ => .v _) _ | exact pu_vals _ | refine pu_app ?_ ?_ | refine pu_cons (by exact pu_of rfl) ?_))) ?_)) ?_ | (simp only [thenQ, blkQ, noGo]; refine endM.mk (H0 := []) 1 [_] rfl rfl (by repeat (first | exact trivial | refine And.intro (one_ok (.own _ _ _ _ _ (Nat.le_refl _))) ?_ | refine And.intro (okp (by repeat (first | exact pu_bytes _ | exact pu_nil | exact pu_vs rfl | exact pu_map (fun _ => .v _) _ | exact pu_vals _ | refine pu_app ?_ ?_ | refine pu_cons (by exact pu_of rfl) ?_))) ?_)) ?_) | refine endM.mk 1 [_] rfl rfl (by repeat (first | exact trivial | refine And.intro (one_ok (.own _ _ _ _ _ (Nat.le_refl _))) ?_ | refine And.intro (okp (by repeat (first | exact pu_bytes _ | exact pu_nil | exact pu_vs rfl | exact pu_map (fun _ => .v _) _ | exact pu_vals _ | refine pu_app ?_ ?_ | refine pu_cons (by exact pu_of rfl) ?_))) ?_)) ?_
      exact EndsM.r1 rfl (.tmp _ (.own _ _ _ _ _) rfl) (by first | exact .own _ _ _ _ _ (Nat.le_refl _) | exact .v _ | exact Pure'.ok (by exact pu_of rfl) _ | exact .tup _ (by repeat (first | exact ok_nil | refine ok_cons (by first | exact .own _ _ _ _ _ (Nat.le_refl _) | exact .ptr _ _ _ (Nat.le_refl _) | exact .v _ | exact Pure'.ok (by exact pu_of rfl) _) ?_))) (by have e : m = s.length := (by omega); subst e; rw [List.take_length]; exact ⟨congrArg DOut.ret (ow_eq (by simp only [List.length_cons, List.length_append, List.length_nil]; omega)), congrArg (fun c => [c]) (tb_eq (by simp only [List.length_cons, List.length_append, List.length_nil]; omega) (by simp [bytesD]))⟩)
end Go.Proofs.Ytpdjcfhmdeeikaa
namespace Go.Proofs.Ytpdjcfhmdeeikaa
open Go.RowKit Go.DL

theorem caseA {v : Val} (h : v = ⟨0, 0, []⟩) : mayM v = true ∧ oneM v = [1] := by subst h; exact ⟨rfl, rfl⟩
theorem caseB {v : Val} (h1 : v.k = 1) (h2 : v.t = []) (h3 : v.i = 0 ∨ v.i = 1) : mayM v = true ∧ oneM v = [2, UInt8.ofNat (v.i % 256).toNat] := by
  obtain ⟨k, i, t⟩ := v
  simp only at h1 h2 h3
  subst h1 h2
  rcases h3 with rfl | rfl <;> exact ⟨rfl, rfl⟩
theorem caseC {v : Val} (h1 : v.k = 2) (h2 : v.t = []) : mayM v = true ∧ oneM v = 3 :: hi8 (keyI v.i) := by
  obtain ⟨k, i, t⟩ := v
  simp only at h1 h2
  subst h1 h2
  exact ⟨rfl, rfl⟩
theorem caseD {v : Val} (h1 : v.k = 3) (h2 : v.i = 0) : mayM v = true ∧ oneM v = 4 :: (escM v.t ++ [0, 1]) := by
  obtain ⟨k, i, t⟩ := v
  simp only at h1 h2
  subst h1 h2
  exact ⟨rfl, rfl⟩
theorem caseE {v : Val} (hA : ¬ v = ⟨0, 0, []⟩) (hB : (¬ v.k = 1 ∨ ¬ v.t = []) ∨ ¬ v.i = 0 ∧ ¬ v.i = 1) (hC : ¬ v.k = 2 ∨ ¬ v.t = []) (hD : ¬ v.k = 3 ∨ ¬ v.i = 0) : mayM v = false := by
  obtain ⟨k, i, t⟩ := v
  simp only [Val.mk.injEq] at *
  cases h : mayM ⟨k, i, t⟩ with
  | false => rfl
  | true =>
    exfalso
    unfold mayM at h
    simp only [Bool.and_eq_true, Bool.not_eq_true', Bool.or_eq_false_iff, Bool.and_eq_false_iff, decide_eq_false_iff_not, Bool.or_eq_true, decide_eq_true_eq, beq_iff_eq, bne_eq_false_iff_eq, Bool.not_eq_false'] at h
    obtain ⟨⟨h1, h2⟩, h3⟩ := h
    have hk : k.toNat ≤ 3 := by have : (3 : UInt8).toNat = 3 := rfl; omega
    have h4 : k = 0 ∨ k = 1 ∨ k = 2 ∨ k = 3 := by
      have e : ∀ a b : UInt8, a.toNat = b.toNat → a = b := fun a b => UInt8.toNat_inj.1
      rcases (by omega : k.toNat = 0 ∨ k.toNat = 1 ∨ k.toNat = 2 ∨ k.toNat = 3) with h | h | h | h
      · exact .inl (e _ _ h)
      · exact .inr (.inl (e _ _ h))
      · exact .inr (.inr (.inl (e _ _ h)))
      · exact .inr (.inr (.inr (e _ _ h)))
    rcases h4 with rfl | rfl | rfl | rfl
    · rcases h2 with h2 | h2
      · cases h2
      · rcases h3 with (h3 | h3) | h3
        · cases h3
        · exact hA ⟨rfl, h3, h2⟩
        · cases h3.1
    · rcases h2 with h2 | h2
      · cases h2
      · rcases hB with (hB | hB) | hB
        · exact hB rfl
        · exact hB h2
        · rcases h3 with (h3 | h3) | h3
          · cases h3
          · exact hB.1 h3
          · exact hB.2 h3.2
    · rcases h2 with h2 | h2
      · cases h2
      · rcases hC with hC | hC
        · exact hC rfl
        · exact hC h2
    · have hD : ¬ i = 0 := by rcases hD with hD | hD; exact absurd rfl hD; exact hD
      apply hD
      rcases h3 with (h3 | h3) | h3
      · cases h3
      · exact h3
      · cases h3.1
set_option maxHeartbeats 4000000 in
theorem app_c (b : List UInt8) (l : List Val) (hs : b.length + szM l ≤ 1099511627776) : Fun Try.prog 24 [rdB b, rdV l] (· = resA (appM b l)) := by
  refine Fun.of Try.func24 rfl (Nat.le_of_ble_eq_true rfl) fun C => ?_
  refine WC.seq fun Fh1_ h1_ => ?_
  have hl := szM_ge l
  refine WC.region ?_
  refine RG.op _ _ rfl rfl (o_assign (.v _) rfl) ?_
  refine RG.op _ _ rfl rfl (o_assign (.v _) rfl) ?_
  refine RG.nil (h1_ _ ?_)
  refine WC.seq fun Fh2_ h2_ => ?_
  refine WC.region ?_
  refine RG.op _ _ rfl rfl (o_move (.rd _ _) rfl) ?_
  refine RG.op _ _ rfl rfl (o_len_rd rfl Try.underlying24) ?_
  refine RG.op _ _ rfl rfl (o_move (.rd _ _) rfl) ?_
  refine RG.op _ _ rfl rfl (o_len_rd rfl Try.underlying24) ?_
  refine RG.op _ _ rfl rfl (o_move (.rd _ _) rfl) ?_
  refine RG.op _ _ rfl rfl (o_len_rd rfl Try.underlying22) ?_
  refine RG.op _ _ rfl rfl (o_mul rfl rfl (by first | omega | exact ubyte _ | (simp only [LS, hi8_len] <;> omega)) (by first | omega | exact ubyte _ | (simp only [LS, hi8_len] <;> omega))) ?_
  refine RG.op _ _ rfl rfl (o_add rfl rfl (by first | omega | exact ubyte _ | (simp only [LS, hi8_len] <;> omega)) (by first | omega | exact ubyte _ | (simp only [LS, hi8_len] <;> omega))) ?_
  refine RG.op _ _ rfl rfl (o_makeT b.length b.length (b.length + (9 * l.length)) rfl rfl Try.underlying24 Ty.inf5 rfl rfl (by first | omega | exact ubyte _ | (simp only [LS, hi8_len] <;> omega)) (by first | omega | exact ubyte _ | (simp only [LS, hi8_len] <;> omega)) (by first | omega | exact ubyte _ | (simp only [LS, hi8_len] <;> omega)) (by first | omega | exact ubyte _ | (simp only [LS, hi8_len] <;> omega)) (by first | omega | exact ubyte _ | (simp only [LS, hi8_len] <;> omega))) ?_
  refine RG.op _ _ rfl rfl (o_assign (.own _ _ _ _ _) rfl) ?_
  refine RG.nil (h2_ _ ?_)
  refine WC.seq fun Fh3_ h3_ => ?_
  refine WC.region ?_
  refine RG.op _ _ rfl rfl (o_move (.own _ _ _ _ _) rfl) ?_
  refine RG.op _ _ rfl rfl (o_move (.rd _ _) rfl) ?_
  refine RG.op _ _ rfl rfl (o_copyA rfl rfl Try.underlying24 (sz_of Ty.inf5) rfl rfl (by first | omega | exact ubyte _ | (simp only [LS, hi8_len] <;> omega)) rfl (by first | omega | exact ubyte _ | (simp only [LS, hi8_len] <;> omega)) (by repeat (first | exact bytesD_one _ | exact one_nil | exact one_map (fun _ => rfl) _ | exact one_vals _ | refine one_app ?_ ?_ | refine one_cons rfl ?_))) ?_
  refine RG.nil (h3_ _ ?_)
  refine WC.seq fun Fh4_ h4_ => ?_
  refine WC.seq fun Fh5_ h5_ => ?_
  refine WC.region ?_
  refine RG.op _ _ rfl rfl (o_move (.rd _ _) rfl) ?_
  refine RG.op _ _ rfl rfl (o_len_rd rfl Try.underlying22) ?_
  refine RG.op _ _ rfl rfl (o_move (.v _) rfl) ?_
  refine RG.nil (h5_ _ ?_)
  refine WC.block ?_
  refine WC.loopU [4, 5, 6, 8, 23, 24, 25, 26, 27, 28, 29, 30, 31, 32, 33, 34, 35, 36, 37, 38, 39, 40, 41, 42, 43, 44, 45, 46, 47, 48, 49, 50, 51, 52, 53, 54, 55, 56, 57, 58, 59, 60, 61, 62, 63, 64, 65, 66, 67, 68, 69, 70, 71, 72, 73, 74, 75, 76, 77, 78, 79, 80, 81, 82, 83, 84, 85] (fun (k : Nat) => [(23, I64 ((k : Nat) : Int)), (6, ow 0 (b ++ (l.take k).flatMap oneM).length 1)]) (fun (k : Nat) => [(0, tb 5 (b ++ (l.take k).flatMap oneM).length (bytesD (b ++ (l.take k).flatMap oneM)))]) (fun (k : Nat) => k ≤ l.length ∧ (l.take k).all mayM = true) (fun (k : Nat) => l.length - k) 0 ⟨by omega, rfl⟩ ?lpa6_ ?lpb7_
  case lpa6_ =>
    exact .mk' ⟨⟨rfl, .v _⟩, ⟨ow_eq (by simp), (by first | exact .own _ _ _ _ _ (Nat.le_refl _) | exact .ptr _ _ _ (Nat.le_refl _) | exact .omp _ _ (Nat.le_refl _))⟩, trivial⟩ (same_refl _ _) (congrArg (fun c => [c]) (tb_eq (by simp) (by simp))) (by repeat (first | exact trivial | refine And.intro (Nat.le_refl _) ?_ | refine And.intro trivial ?_ | refine And.intro (by show _ ≤ _; (first | omega | (simp only [LS, hi8_len] <;> omega))) ?_)) (by repeat (first | exact trivial | refine And.intro (one_ok (.own _ _ _ _ _ (Nat.le_refl _))) ?_ | refine And.intro (okp (by repeat (first | exact pu_bytes _ | exact pu_nil | exact pu_vs rfl | exact pu_map (fun _ => .v _) _ | exact pu_vals _ | refine pu_app ?_ ?_ | refine pu_cons (by exact pu_of rfl) ?_))) ?_))
  case lpb7_ =>
    rintro k hI
    obtain ⟨hk, ha⟩ := id hI
    have h1 := ones_len (l.take k)
    refine WC.seq fun Fh8_ h8_ => ?_
    refine WC.region ?_
    refine RG.op _ _ rfl rfl (o_ltI rfl rfl) ?_
    refine RG.nil (h8_ _ ?_)
    refine WC.seq fun Fh9_ h9_ => ?_
    refine WC.cond _ rfl (fun c4 => ?_) (fun c4 => ?_)
    ·
      have p4 := c4
      try simp only [CN] at p4
      have hkl : k < l.length := by omega
      have h2 := szM_step hkl
      have h3 := szM_take l (k + 1)
      have h4 := oneM_len l[k]
      refine WC.skip (h9_ _ ?_)
      refine WC.seq fun Fh10_ h10_ => ?_
      refine WC.block ?_
      refine WC.seq fun Fh11_ h11_ => ?_
      refine WC.region ?_
      refine RG.op _ _ rfl rfl (o_ixn_L k vc_len rfl rfl rfl Try.underlying22 (sz_of Ty.inf36) (by first | omega | exact ubyte _ | (simp only [LS, hi8_len] <;> omega)) (by first | omega | exact ubyte _ | (simp only [LS, hi8_len] <;> omega))) ?_
      refine RG.op _ _ rfl rfl (o_load_adr_L (xs := [_, _, _]) rfl Try.underlying36 rfl (sz_of Ty.inf36) rfl) ?_
      refine RG.op _ _ rfl rfl (o_alloc (z_of Ty.inf36) rfl) ?_
      refine RG.op _ _ rfl rfl (o_store (d := (.agg [_, _, _])) rfl rfl rfl rfl (sz_of Ty.inf36) (Nat.le_of_ble_eq_true rfl) rfl) ?_
      refine RG.nil (h11_ _ ?_)
      refine WC.block ?_
      refine WC.seq fun Fh12_ h12_ => ?_
      refine WC.region ?_
      refine RG.op _ _ rfl rfl (o_load_ptr_L (xs := [_, _, _]) rfl Try.underlying36 rfl (sz_of Ty.inf36) rfl rfl rfl rfl) ?_
      refine RG.op _ _ rfl rfl (o_build (cs := [B8 0, I64 0, S []]) Try.underlying36 Ty.inf36 (Ty.pl36 Try.underlying36) rfl) ?_
      refine RG.op _ _ rfl rfl (o_eqV Ty.fs36 rfl rfl) ?_
      refine RG.op _ _ rfl rfl (o_assign (.v _) rfl) ?_
      refine RG.nil (h12_ _ ?_)
      refine WC.cond _ rfl (fun c7 => ?_) (fun c7 => ?_)
      ·
        have p7 := c7
        try simp only [CN] at p7
        have hcase := caseA (v := l[k]) p7
        refine WC.region ?_
        refine RG.op _ _ rfl rfl (o_move (.own _ _ _ _ _) rfl) ?_
        refine RG.op _ _ rfl rfl (o_litP (cs := [(B8 1)]) Try.underlying24 Ty.inf5 rfl rfl rfl rfl (by repeat (first | exact pu_bytes _ | exact pu_nil | exact pu_vs rfl | exact pu_map (fun _ => .v _) _ | exact pu_vals _ | refine pu_app ?_ ?_ | refine pu_cons (by exact pu_of rfl) ?_))) ?_
        refine RG.op _ _ rfl rfl (o_appT (Elem.of Try.underlying24 Ty.inf5 rfl (by decide)) rfl rfl rfl (by first | omega | exact ubyte _ | (simp only [LS, hi8_len] <;> omega)) (by first | omega | exact ubyte _ | (simp only [LS, hi8_len] <;> omega)) (by repeat (first | exact bytesD_one _ | exact one_nil | exact one_map (fun _ => rfl) _ | exact one_vals _ | refine one_app ?_ ?_ | refine one_cons rfl ?_)) (by first | omega | exact ubyte _ | (simp only [LS, hi8_len] <;> omega)) (by first | omega | exact ubyte _ | (simp only [LS, hi8_len] <;> omega))) ?_
        refine RG.op _ _ rfl rfl (o_assign (.own _ _ _ _ _) rfl) ?_
        refine RG.nil (h10_ _ ?_)
        refine WC.region ?_
        refine RG.op _ _ rfl rfl (o_add rfl rfl (by first | omega | exact ubyte _ | (simp only [LS, hi8_len] <;> omega)) (by first | omega | exact ubyte _ | (simp only [LS, hi8_len] <;> omega))) ?_
        refine RG.op _ _ rfl rfl (o_move (.v _) rfl) ?_
        refine RG.nil (Exists.intro (k + 1) ⟨⟨by omega, all_step hkl ha hcase.1⟩, by first | omega | (simp only [LS, hi8_len] <;> omega), ?_⟩)
        exact .mk' ⟨⟨rfl, .v _⟩, ⟨ow_eq (by rw [ones_step hkl, hcase.2, ← List.append_assoc, List.length_append (bs := _ :: _)] <;> rfl), (by first | exact .own _ _ _ _ _ (Nat.le_refl _) | exact .ptr _ _ _ (Nat.le_refl _) | exact .omp _ _ (Nat.le_refl _))⟩, trivial⟩ (by repeat (first | with_reducible exact same_refl _ _ | with_reducible refine same_updO (by with_unfolding_all exact rfl) ?_ | with_reducible refine same_updN ?_ | with_reducible refine same_updL (by with_unfolding_all exact rfl) ?_ | with_reducible refine same_forget (by with_unfolding_all exact rfl) ?_)) (congrArg (fun c => [c]) (tb_eq (by rw [ones_step hkl, hcase.2, ← List.append_assoc, List.length_append (bs := _ :: _)] <;> rfl) (by rw [ones_step hkl, hcase.2, ← List.append_assoc] <;> first | rfl | exact (bytesD_app _ [1]).symm | exact (bytesD_app _ [2, UInt8.ofNat (l[k].i % 256).toNat]).symm))) (by repeat (first | exact trivial | refine And.intro (Nat.le_refl _) ?_ | refine And.intro trivial ?_ | refine And.intro (by show _ ≤ _; (first | omega | (simp only [LS, hi8_len] <;> omega))) ?_)) (by repeat (first | exact trivial | refine And.intro (one_ok (.own _ _ _ _ _ (Nat.le_refl _))) ?_ | refine And.intro (okp (by repeat (first | exact pu_bytes _ | exact pu_nil | exact pu_vs rfl | exact pu_map (fun _ => .v _) _ | exact pu_vals _ | refine pu_app ?_ ?_ | refine pu_cons (by exact pu_of rfl) ?_))) ?_))
      ·
        have p7 := c7
        try simp only [CN] at p7
        refine WC.seq fun Fh13_ h13_ => ?_
        refine WC.region ?_
        refine RG.op _ _ rfl rfl (o_fld_ptr rfl Try.underlying36 rfl (sz_of Ty.inf5) (by decide)) ?_
        refine RG.op _ _ rfl rfl (o_load_ptr rfl Try.underlying5 rfl rfl rfl rfl) ?_
        refine RG.op _ _ rfl rfl (o_eqB (b := 1) rfl rfl) ?_
        refine RG.op _ _ rfl rfl (o_move (.v _) rfl) ?_
        refine RG.opg1 _ _ _ _ _ rfl rfl rfl rfl rfl (fun hb => o_fld_ptr rfl Try.underlying36 rfl (sz_of Ty.inf9) (by decide)) ?_
        refine RG.opg1 _ _ _ _ _ rfl rfl rfl rfl rfl (fun hb => o_load_ptr (gdT hb) Try.underlying9 rfl rfl rfl rfl) ?_
        refine RG.opg1 _ _ _ _ _ rfl rfl rfl rfl rfl (fun hb => o_eqS' (m := ([] : List UInt8)) (gdT hb) rfl) ?_
        refine RG.op _ _ rfl rfl (o_and _ _ rfl rfl rfl) ?_
        refine RG.op _ _ rfl rfl (o_move (.v _) rfl) ?_
        refine RG.opg1 _ _ _ _ _ rfl rfl rfl rfl rfl (fun hb => o_fld_ptr rfl Try.underlying36 rfl (sz_of Ty.inf2) (by decide)) ?_
        refine RG.opg1 _ _ _ _ _ rfl rfl rfl rfl rfl (fun hb => o_load_ptr (gdT hb) Try.underlying2 rfl rfl rfl rfl) ?_
        refine RG.opg1 _ _ _ _ _ rfl rfl rfl rfl rfl (fun hb => o_eqI (gdT hb) rfl) ?_
        refine RG.opg1 _ _ _ _ _ rfl rfl rfl rfl rfl (fun hb => o_move (.v _) (gdT hb)) ?_
        refine RG.opg2 _ _ _ _ _ _ rfl rfl rfl rfl rfl (fun hb => o_fld_ptr rfl Try.underlying36 rfl (sz_of Ty.inf2) (by decide)) ?_
        refine RG.opg2 _ _ _ _ _ _ rfl rfl rfl rfl rfl (fun hb => o_load_ptr (gdT hb) Try.underlying2 rfl rfl rfl rfl) ?_
        refine RG.opg2 _ _ _ _ _ _ rfl rfl rfl rfl rfl (fun hb => o_eqI (gdT hb) rfl) ?_
        refine RG.opg1 _ _ _ _ _ rfl rfl rfl rfl rfl (fun hb => o_or _ _ (gdT hb) rfl (gdS hb)) ?_
        refine RG.op _ _ rfl rfl (o_and _ _ rfl rfl rfl) ?_
        refine RG.op _ _ rfl rfl (o_assign (.v _) rfl) ?_
        refine RG.nil (h13_ _ ?_)
        refine WC.cond _ rfl (fun c9 => ?_) (fun c9 => ?_)
        ·
          have p9 := c9
          try simp only [CN] at p9
          have hcase := caseB (v := l[k]) p9.1.1 p9.1.2 p9.2
          refine WC.region ?_
          refine RG.op _ _ rfl rfl (o_move (.own _ _ _ _ _) rfl) ?_
          refine RG.op _ _ rfl rfl (o_fld_ptr rfl Try.underlying36 rfl (sz_of Ty.inf2) (by decide)) ?_
          refine RG.op _ _ rfl rfl (o_load_ptr rfl Try.underlying2 rfl rfl rfl rfl) ?_
          refine RG.op _ _ rfl rfl (o_ItoB rfl Try.underlying2 Try.underlying5) ?_
          refine RG.op _ _ rfl rfl (o_litP (cs := [(B8 2), (.v _)]) Try.underlying24 Ty.inf5 rfl rfl rfl rfl (by repeat (first | exact pu_bytes _ | exact pu_nil | exact pu_vs rfl | exact pu_map (fun _ => .v _) _ | exact pu_vals _ | refine pu_app ?_ ?_ | refine pu_cons (by exact pu_of rfl) ?_))) ?_
          refine RG.op _ _ rfl rfl (o_appT (Elem.of Try.underlying24 Ty.inf5 rfl (by decide)) rfl rfl rfl (by first | omega | exact ubyte _ | (simp only [LS, hi8_len] <;> omega)) (by first | omega | exact ubyte _ | (simp only [LS, hi8_len] <;> omega)) (by repeat (first | exact bytesD_one _ | exact one_nil | exact one_map (fun _ => rfl) _ | exact one_vals _ | refine one_app ?_ ?_ | refine one_cons rfl ?_)) (by first | omega | exact ubyte _ | (simp only [LS, hi8_len] <;> omega)) (by first | omega | exact ubyte _ | (simp only [LS, hi8_len] <;> omega))) ?_
          refine RG.op _ _ rfl rfl (o_assign (.own _ _ _ _ _) rfl) ?_
          refine RG.nil (h10_ _ ?_)
          refine WC.region ?_
          refine RG.op _ _ rfl rfl (o_add rfl rfl (by first | omega | exact ubyte _ | (simp only [LS, hi8_len] <;> omega)) (by first | omega | exact ubyte _ | (simp only [LS, hi8_len] <;> omega))) ?_
          refine RG.op _ _ rfl rfl (o_move (.v _) rfl) ?_
          refine RG.nil (Exists.intro (k + 1) ⟨⟨by omega, all_step hkl ha hcase.1⟩, by first | omega | (simp only [LS, hi8_len] <;> omega), ?_⟩)
          exact .mk' ⟨⟨rfl, .v _⟩, ⟨ow_eq (by rw [ones_step hkl, hcase.2, ← List.append_assoc, List.length_append (bs := _ :: _)] <;> rfl), (by first | exact .own _ _ _ _ _ (Nat.le_refl _) | exact .ptr _ _ _ (Nat.le_refl _) | exact .omp _ _ (Nat.le_refl _))⟩, trivial⟩ (by repeat (first | with_reducible exact same_refl _ _ | with_reducible refine same_updO (by with_unfolding_all exact rfl) ?_ | with_reducible refine same_updN ?_ | with_reducible refine same_updL (by with_unfolding_all exact rfl) ?_ | with_reducible refine same_forget (by with_unfolding_all exact rfl) ?_)) (congrArg (fun c => [c]) (tb_eq (by rw [ones_step hkl, hcase.2, ← List.append_assoc, List.length_append (bs := _ :: _)] <;> rfl) (by rw [ones_step hkl, hcase.2, ← List.append_assoc] <;> first | rfl | exact (bytesD_app _ [1]).symm | exact (bytesD_app _ [2, UInt8.ofNat (l[k].i % 256).toNat]).symm))) (by repeat (first | exact trivial | refine And.intro (Nat.le_refl _) ?_ | refine And.intro trivial ?_ | refine And.intro (by show _ ≤ _; (first | omega | (simp only [LS, hi8_len] <;> omega))) ?_)) (by repeat (first | exact trivial | refine And.intro (one_ok (.own _ _ _ _ _ (Nat.le_refl _))) ?_ | refine And.intro (okp (by repeat (first | exact pu_bytes _ | exact pu_nil | exact pu_vs rfl | exact pu_map (fun _ => .v _) _ | exact pu_vals _ | refine pu_app ?_ ?_ | refine pu_cons (by exact pu_of rfl) ?_))) ?_))
        ·
          have p9 := c9
          try simp only [CN] at p9
          refine WC.seq fun Fh14_ h14_ => ?_
          refine WC.region ?_
          refine RG.op _ _ rfl rfl (o_fld_ptr rfl Try.underlying36 rfl (sz_of Ty.inf5) (by decide)) ?_
          refine RG.op _ _ rfl rfl (o_load_ptr rfl Try.underlying5 rfl rfl rfl rfl) ?_
          refine RG.op _ _ rfl rfl (o_eqB (b := 2) rfl rfl) ?_
          refine RG.op _ _ rfl rfl (o_move (.v _) rfl) ?_
          refine RG.opg1 _ _ _ _ _ rfl rfl rfl rfl rfl (fun hb => o_fld_ptr rfl Try.underlying36 rfl (sz_of Ty.inf9) (by decide)) ?_
          refine RG.opg1 _ _ _ _ _ rfl rfl rfl rfl rfl (fun hb => o_load_ptr (gdT hb) Try.underlying9 rfl rfl rfl rfl) ?_
          refine RG.opg1 _ _ _ _ _ rfl rfl rfl rfl rfl (fun hb => o_eqS' (m := ([] : List UInt8)) (gdT hb) rfl) ?_
          refine RG.op _ _ rfl rfl (o_and _ _ rfl rfl rfl) ?_
          refine RG.op _ _ rfl rfl (o_assign (.v _) rfl) ?_
          refine RG.nil (h14_ _ ?_)
          refine WC.cond _ rfl (fun c11 => ?_) (fun c11 => ?_)
          ·
            have p11 := c11
            try simp only [CN] at p11
            have hcase := caseC (v := l[k]) p11.1 p11.2
            refine WC.region ?_
            refine RG.op _ _ rfl rfl (o_move (.own _ _ _ _ _) rfl) ?_
            refine RG.op _ _ rfl rfl (o_fld_ptr rfl Try.underlying36 rfl (sz_of Ty.inf2) (by decide)) ?_
            refine RG.op _ _ rfl rfl (o_load_ptr rfl Try.underlying2 rfl rfl rfl rfl) ?_
            refine RG.opM _ _ rfl rfl (x_call Ty.cal41 (FunM.frame (ds := [_, _]) [0] [_] [_] [] (appendInt_c _ _ (by first | omega | exact ubyte _ | (simp only [LS, hi8_len] <;> omega))) (by decide) ⟨rfl, trivial⟩ ⟨.pure (by repeat (first | exact pu_bytes _ | exact pu_nil | exact pu_vs rfl | exact pu_map (fun _ => .v _) _ | exact pu_vals _ | refine pu_app ?_ ?_ | refine pu_cons (by exact pu_of rfl) ?_)), trivial⟩ ⟨.own _ _ _ _ _ rfl, .pure _ (by exact pu_of rfl), trivial⟩ rfl ⟨.pure (by repeat (first | exact pu_bytes _ | exact pu_nil | exact pu_vs rfl | exact pu_map (fun _ => .v _) _ | exact pu_vals _ | refine pu_app ?_ ?_ | refine pu_cons (by exact pu_of rfl) ?_)), trivial⟩ (.own _ _ _ _ _ rfl) rfl) ⟨.inl rfl, .inl rfl, trivial⟩) ?_
            refine RG.op _ _ rfl rfl (o_assign (.own _ _ _ _ _) rfl) ?_
            refine RG.nil (h10_ _ ?_)
            refine WC.region ?_
            refine RG.op _ _ rfl rfl (o_add rfl rfl (by first | omega | exact ubyte _ | (simp only [LS, hi8_len] <;> omega)) (by first | omega | exact ubyte _ | (simp only [LS, hi8_len] <;> omega))) ?_
            refine RG.op _ _ rfl rfl (o_move (.v _) rfl) ?_
            refine RG.nil (Exists.intro (k + 1) ⟨⟨by omega, all_step hkl ha hcase.1⟩, by first | omega | (simp only [LS, hi8_len] <;> omega), ?_⟩)
            exact .mk' ⟨⟨rfl, .v _⟩, ⟨ow_eq (by rw [ones_step hkl, hcase.2, ← List.append_assoc, List.length_append (bs := _ :: _)] <;> rfl), (by first | exact .own _ _ _ _ _ (Nat.le_refl _) | exact .ptr _ _ _ (Nat.le_refl _) | exact .omp _ _ (Nat.le_refl _))⟩, trivial⟩ (by repeat (first | with_reducible exact same_refl _ _ | with_reducible refine same_updO (by with_unfolding_all exact rfl) ?_ | with_reducible refine same_updN ?_ | with_reducible refine same_updL (by with_unfolding_all exact rfl) ?_ | with_reducible refine same_forget (by with_unfolding_all exact rfl) ?_)) (congrArg (fun c => [c]) (tb_eq (by rw [ones_step hkl, hcase.2, ← List.append_assoc, List.length_append (bs := _ :: _)] <;> rfl) (by rw [ones_step hkl, hcase.2, ← List.append_assoc] <;> first | rfl | exact (bytesD_app _ [1]).symm | exact (bytesD_app _ [2, UInt8.ofNat (l[k].i % 256).toNat]).symm))) (by repeat (first | exact trivial | refine And.intro (Nat.le_refl _) ?_ | refine And.intro trivial ?_ | refine And.intro (by show _ ≤ _; (first | omega | (simp only [LS, hi8_len] <;> omega))) ?_)) (by repeat (first | exact trivial | refine And.intro (one_ok (.own _ _ _ _ _ (Nat.le_refl _))) ?_ | refine And.intro (okp (by repeat (first | exact pu_bytes _ | exact pu_nil | exact pu_vs rfl | exact pu_map (fun _ => .v _) _ | exact pu_vals _ | refine pu_app ?_ ?_ | refine pu_cons (by exact pu_of rfl) ?_))) ?_))
          ·
            have p11 := c11
            try simp only [CN] at p11
            refine WC.seq fun Fh15_ h15_ => ?_
            refine WC.region ?_
            refine RG.op _ _ rfl rfl (o_fld_ptr rfl Try.underlying36 rfl (sz_of Ty.inf5) (by decide)) ?_
            refine RG.op _ _ rfl rfl (o_load_ptr rfl Try.underlying5 rfl rfl rfl rfl) ?_
            refine RG.op _ _ rfl rfl (o_eqB (b := 3) rfl rfl) ?_
            refine RG.op _ _ rfl rfl (o_move (.v _) rfl) ?_
            refine RG.opg1 _ _ _ _ _ rfl rfl rfl rfl rfl (fun hb => o_fld_ptr rfl Try.underlying36 rfl (sz_of Ty.inf2) (by decide)) ?_
            refine RG.opg1 _ _ _ _ _ rfl rfl rfl rfl rfl (fun hb => o_load_ptr (gdT hb) Try.underlying2 rfl rfl rfl rfl) ?_
            refine RG.opg1 _ _ _ _ _ rfl rfl rfl rfl rfl (fun hb => o_eqI (gdT hb) rfl) ?_
            refine RG.op _ _ rfl rfl (o_and _ _ rfl rfl rfl) ?_
            refine RG.op _ _ rfl rfl (o_assign (.v _) rfl) ?_
            refine RG.nil (h15_ _ ?_)
            refine WC.cond _ rfl (fun c13 => ?_) (fun c13 => ?_)
            ·
              have p13 := c13
              try simp only [CN] at p13
              have hcase := caseD (v := l[k]) p13.1 p13.2
              refine WC.region ?_
              refine RG.op _ _ rfl rfl (o_move (.own _ _ _ _ _) rfl) ?_
              refine RG.op _ _ rfl rfl (o_fld_ptr rfl Try.underlying36 rfl (sz_of Ty.inf9) (by decide)) ?_
              refine RG.op _ _ rfl rfl (o_load_ptr rfl Try.underlying9 rfl rfl rfl rfl) ?_
              refine RG.opM _ _ rfl rfl (x_call Ty.cal42 (FunM.frame (ds := [_, _]) [0] [_] [_] [] (appendText_c _ _ (by first | omega | exact ubyte _ | (simp only [LS, hi8_len] <;> omega)) (by first | omega | exact ubyte _ | (simp only [LS, hi8_len] <;> omega))) (by decide) ⟨rfl, trivial⟩ ⟨.pure (by repeat (first | exact pu_bytes _ | exact pu_nil | exact pu_vs rfl | exact pu_map (fun _ => .v _) _ | exact pu_vals _ | refine pu_app ?_ ?_ | refine pu_cons (by exact pu_of rfl) ?_)), trivial⟩ ⟨.own _ _ _ _ _ rfl, .pure _ (by exact pu_of rfl), trivial⟩ rfl ⟨.pure (by repeat (first | exact pu_bytes _ | exact pu_nil | exact pu_vs rfl | exact pu_map (fun _ => .v _) _ | exact pu_vals _ | refine pu_app ?_ ?_ | refine pu_cons (by exact pu_of rfl) ?_)), trivial⟩ (.own _ _ _ _ _ rfl) rfl) ⟨.inl rfl, .inl rfl, trivial⟩) ?_
              refine RG.op _ _ rfl rfl (o_assign (.own _ _ _ _ _) rfl) ?_
              refine RG.nil (h10_ _ ?_)
              refine WC.region ?_
              refine RG.op _ _ rfl rfl (o_add rfl rfl (by first | omega | exact ubyte _ | (simp only [LS, hi8_len] <;> omega)) (by first | omega | exact ubyte _ | (simp only [LS, hi8_len] <;> omega))) ?_
              refine RG.op _ _ rfl rfl (o_move (.v _) rfl) ?_
              refine RG.nil (Exists.intro (k + 1) ⟨⟨by omega, all_step hkl ha hcase.1⟩, by first | omega | (simp only [LS, hi8_len] <;> omega), ?_⟩)
              exact .mk' ⟨⟨rfl, .v _⟩, ⟨ow_eq (by rw [ones_step hkl, hcase.2, ← List.append_assoc, List.length_append (bs := _ :: _)] <;> rfl), (by first | exact .own _ _ _ _ _ (Nat.le_refl _) | exact .ptr _ _ _ (Nat.le_refl _) | exact .omp _ _ (Nat.le_refl _))⟩, trivial⟩ (by repeat (first | with_reducible exact same_refl _ _ | with_reducible refine same_updO (by with_unfolding_all exact rfl) ?_ | with_reducible refine same_updN ?_ | with_reducible refine same_updL (by with_unfolding_all exact rfl) ?_ | with_reducible refine same_forget (by with_unfolding_all exact rfl) ?_)) (congrArg (fun c => [c]) (tb_eq (by rw [ones_step hkl, hcase.2, ← List.append_assoc, List.length_append (bs := _ :: _)] <;> rfl) (by rw [ones_step hkl, hcase.2, ← List.append_assoc] <;> first | rfl | exact (bytesD_app _ [1]).symm | exact (bytesD_app _ [2, UInt8.ofNat (l[k].i % 256).toNat]).symm))) (by repeat (first | exact trivial | refine And.intro (Nat.le_refl _) ?_ | refine And.intro trivial ?_ | refine And.intro (by show _ ≤ _; (first | omega | (simp only [LS, hi8_len] <;> omega))) ?_)) (by repeat (first | exact trivial | refine And.intro (one_ok (.own _ _ _ _ _ (Nat.le_refl _))) ?_ | refine And.intro (okp (by repeat (first | exact pu_bytes _ | exact pu_nil | exact pu_vs rfl | exact pu_map (fun _ => .v _) _ | exact pu_vals _ | refine pu_app ?_ ?_ | refine pu_cons (by exact pu_of rfl) ?_))) ?_))
            ·
              have p13 := c13
              try simp only [CN] at p13
              refine WC.seq fun Fh16_ h16_ => ?_
              refine WC.region ?_
              refine RG.op _ _ rfl rfl (o_assign (.v _) rfl) ?_
              refine RG.op _ _ rfl rfl (o_assign (.v _) rfl) ?_
              refine RG.nil (h16_ _ ?_)
              refine WC.ret ?_
              exact Ends.r2 rfl (.tmp _ (.v _) rfl) (.tmp _ (.v _) rfl) .nilr (.v _) (by have hn := (caseE (v := l[k]) p7 p9 p11 p13); unfold appM; rw [all_stop hkl hn]; rfl)
    ·
      have p4 := c4
      try simp only [CN] at p4
      refine WC.exit (h4_ _ ?_)
      refine WC.seq fun Fh17_ h17_ => ?_
      refine WC.region ?_
      refine RG.op _ _ rfl rfl (o_move (.own _ _ _ _ _) rfl) ?_
      refine RG.op _ _ rfl rfl (o_assign (.own _ _ _ _ _) rfl) ?_
      refine RG.op _ _ rfl rfl (o_assign (.v _) rfl) ?_
      refine RG.nil (h17_ _ ?_)
      refine WC.ret ?_
      exact Ends.r2 rfl (.tmp _ (.own _ _ _ _ _) rfl) (.tmp _ (.v _) rfl) (.tb rfl (by repeat (first | exact pu_bytes _ | exact pu_nil | exact pu_vs rfl | exact pu_map (fun _ => .v _) _ | exact pu_vals _ | refine pu_app ?_ ?_ | refine pu_cons (by exact pu_of rfl) ?_))) (.v _) (by have e : k = l.length := (by omega); subst e; rw [List.take_length] at ha ⊢; unfold appM; rw [ha]; rfl)
end Go.Proofs.Ytpdjcfhmdeeikaa

namespace Go.DL
open Go.RowKit

/-! ### Operations that had no lemma -/
section
variable {P : Program} {C : Ctx} {env : Nat → D} {H : Heap} {dst : Option Nat} {ty t t' e : TypeId} {pos : String} {after : Array Edge} {gu : Option (Nat × Bool)} {X Y : Operand}
theorem o_lookupO_hit {id ver : Nat} {b : Blk} {kt et : TypeId} {kd : TypeDesc} {k kk : Value} {d : D} {ok : Bool} (j : Nat) (hx : ev env X = .omp id ver) (hb : H[id]? = some (some b)) (hv : b.ver = ver) (hy : ev env Y = .v k) (ht : P.underlying t = some (.map kt et)) (hk : P.underlying kt = some kd) (hf : flatKey kd = true) (hj : kFind kd k (keysD b.cs) 0 = some (some j)) (hd : b.cs[j]? = some (.tup [.v kk, d])) :
    OpD P C ⟨dst, .lookup t X Y ok, ty, pos, after, gu⟩ env H (bif ok then .tup [d, .v (.bool true)] else d) H := by
  subst hv
  refine OpD.same fun K β a w hw h _ => ?_
  have h1 := h X (by simp [Op.operands])
  have h2 := h Y (by simp [Op.operands])
  rw [hx] at h1; rw [hy] at h2
  obtain ⟨e1, hst⟩ := h1.omp_inv
  obtain ⟨es, ck, hheap, hE⟩ := hw.mapd hb hst
  rw [hE.keys] at hj
  obtain ⟨f1, f2⟩ := findNow_of hj
  obtain ⟨_, f3⟩ := f2 j rfl
  rw [Nat.sub_zero] at f3
  have hu : es[j]? = some es[j] := Array.getElem?_eq_getElem (by simpa using f3)
  obtain ⟨dv, e2, hdv⟩ := hE.rd j _ _ hu hd
  have hdd : dv = d := by injection e2 with e3; injection e3 with _ e4; injection e4 with e5 _; exact e5.symm
  subst hdd
  have hok : OkD H dv := by
    cases hw.ok id b hb _ (List.mem_of_getElem? hd) with
    | tup _ h => exact h dv (by simp)
  have hfind : (Instr.findKey kt k es.toList).run P w = .ok (some (j, es[j].val)) w := by
    have hl : es.toList[j]? = some es[j] := by rw [Array.getElem?_toList]; exact hu
    simp [Instr.findKey, run_underlying hk, f1, hl, hu]
  refine ⟨if ok then .tuple #[es[j].val, .bool true] else es[j].val, ?_, ?_, ?_⟩
  · simp [execOp, e1, h2.v_inv, Instr.lookup, run_underlying ht, run_getMap hheap, run_checkKey' hk hf, hfind]
  · cases ok with
    | false => exact hdv
    | true => exact tupR (us := [es[j].val, .bool true]) rfl (by simp [hdv]; exact .v _ _)
  · cases ok with
    | false => exact hok
    | true => exact .tup _ (by simp [hok]; exact .v _)
theorem o_lookupO_miss {id ver : Nat} {b : Blk} {kt et : TypeId} {kd : TypeDesc} {k zv : Value} {ok : Bool} (hx : ev env X = .omp id ver) (hb : H[id]? = some (some b)) (hv : b.ver = ver) (hy : ev env Y = .v k) (ht : P.underlying t = some (.map kt et)) (hk : P.underlying kt = some kd) (hf : flatKey kd = true) (hz : (P.info? et).map (·.zero) = some (some zv)) (hj : kFind kd k (keysD b.cs) 0 = some none) :
    OpD P C ⟨dst, .lookup t X Y ok, ty, pos, after, gu⟩ env H (bif ok then .tup [.v zv, .v (.bool false)] else .v zv) H := by
  subst hv
  refine OpD.same fun K β a w hw h _ => ?_
  have h1 := h X (by simp [Op.operands])
  have h2 := h Y (by simp [Op.operands])
  rw [hx] at h1; rw [hy] at h2
  obtain ⟨e1, hst⟩ := h1.omp_inv
  obtain ⟨es, ck, hheap, hE⟩ := hw.mapd hb hst
  rw [hE.keys] at hj
  obtain ⟨f1, _⟩ := findNow_of hj
  obtain ⟨inf, hi1, hi2⟩ := Option.map_eq_some_iff.1 hz
  have hfind : (Instr.findKey kt k es.toList).run P w = .ok none w := by
    simp [Instr.findKey, run_underlying hk, f1]
  refine ⟨if ok then .tuple #[zv, .bool false] else zv, ?_, ?_, ?_⟩
  · simp [execOp, e1, h2.v_inv, Instr.lookup, run_underlying ht, run_getMap hheap, run_checkKey' hk hf, hfind, zeroValue, typeInfo, hi1, hi2]
  · cases ok with
    | false => exact .v _ _
    | true => exact tupR (us := [zv, .bool false]) rfl (by simp; exact ⟨.v _ _, .v _ _⟩)
  · cases ok with
    | false => exact .v _
    | true => exact .tup _ (by simp; exact ⟨.v _, .v _⟩)
end

/-! ### What a program says of types and functions -/
end Go.DL
namespace Go.DL
open Go.RowKit

section
variable {P : Program} {X : Type}
section
/-- A zero value, cell by cell. -/
def zvD : Value → D
  | .agg cs => .agg (cs.toList.map D.v)
  | z => .v z
end
end

/-! ### They are so -/
section
variable {P : Program} {X : Type} {k : D → Option X} {r : X} {dst : Option Nat} {ty : TypeId} {pos : String} {after : Array Edge} {gu : Option (Nat × Bool)}
theorem OpD.sub {P : Program} {C : Ctx} {o : Oper} {E : Nat → D} {Hh H' : Heap} {d d' : D} (h : OpD P C o E Hh d H') (hs : ∀ K β v, DR K β true v d → DR K β true v d') (ho : OkD H' d → OkD H' d') : OpD P C o E Hh d' H' :=
  ⟨h.len, fun K β a w Kc Q hw hx hk hn => h.go K β a w Kc Q hw hx hk fun K' β' v w' h1 h2 h3 h4 h5 => hn K' β' v w' h1 h2 h3 (hs _ _ _ h4) (ho h5)⟩
theorem zvD_dr {K : Mem} {β : Nat → Nat → BT} {z v : Value} (h : DR K β true v (.v z)) : DR K β true v (zvD z) := by
  have e := h.v_inv
  subst e
  cases v with
  | agg cs =>
    have g : DR K β true (.agg cs.toList.toArray) (.agg (cs.toList.map D.v)) := .agg _ cs.toList _ (by simp) fun j u d hu hd => by
      rw [List.getElem?_map, hu] at hd
      simp at hd; subst hd; exact .v _ _
    have e : cs.toList.toArray = cs := Array.toArray_toList
    rw [e] at g
    exact g
  | _ => exact .v _ _
theorem zvD_ok {Hh : Heap} (z : Value) : OkD Hh (zvD z) := by
  cases z with
  | agg cs => exact .agg _ fun c hc => by obtain ⟨u, _, rfl⟩ := List.mem_map.1 hc; exact .v _
  | _ => exact .v _
theorem miss_sub {P : Program} {C : Ctx} {o : Oper} {E : Nat → D} {Hh H' : Heap} {z : Value} {ok : Bool} (h : OpD P C o E Hh (bif ok then .tup [.v z, .v (.bool false)] else .v z) H') : OpD P C o E Hh (bif ok then .tup [zvD z, .v (.bool false)] else zvD z) H' := by
  cases ok with
  | false => exact h.sub (fun K β v hv => zvD_dr hv) fun _ => zvD_ok z
  | true =>
    refine h.sub (fun K β v hv => ?_) fun _ => .tup _ (by simp; exact ⟨zvD_ok z, .v _⟩)
    obtain ⟨us, rfl, hl, hd⟩ := hv.tup_inv
    match us, hl with
    | [a, b], _ => exact tupR rfl (by simp; exact ⟨zvD_dr (hd 0 a _ rfl rfl), hd 1 b _ rfl rfl⟩)
end

end Go.DL
namespace Go.DL
open Go.RowKit
section
variable {P : Program} {C : Ctx} {env : Nat → D} {H : Heap} {dst : Option Nat} {ty t t' e : TypeId} {pos : String} {after : Array Edge} {gu : Option (Nat × Bool)} {X Y : Operand}
theorem append_nothingS {K : Mem} {β : Nat → Nat → BT} {w : World} {id ver off n sz bytes : Nat} (E : Elem P t e sz bytes) (hu : P.underlying t' = some .string) {v : Value} (hv : DR K β true v (.own id ver off n sz)) : (Builtin.append_ #[t, t'] ty #[v, .string ⟨#[]⟩]).run P w = .ok v w := by
  obtain ⟨i, z, hi, hz, hsz, hbs, hzs⟩ := E.inf
  obtain ⟨A', c', rfl, hc⟩ := hv.own_len
  have hs : ByteArray.size ⟨#[]⟩ = 0 := rfl
  cases A' <;> simp [Builtin.append_, run_underlying E.ut, run_underlying hu, sizeOf, typeInfo, hi, Builtin.lenOf, Builtin.firstCells, hc, hs, storeCells]
theorem o_appS {id n : Nat} {cs : List D} {l : List UInt8} (E : Elem P t e 1 1) (hx : ev env X = ow id n 1) (hy : ev env Y = S l) (hu : P.underlying t' = some .string) (hi : (P.info? e).map (fun i => (i.zero, i.size, i.bytes)) = some (some (.int .u8 0), 1, 1)) (hb : H[id]? = some (tb e n cs)) (hn : cs.length = n)
    (h63 : n + l.length ≤ 9223372036854775807) (hby : n + l.length ≤ 140737488355328) :
    OpD P C ⟨dst, .call { callee := .builtin .append, args := #[X, Y], argTypes := #[t, t'] }, ty, pos, after, gu⟩ env H (ow id (n + l.length) 1) (H.set id (tb e (n + l.length) (cs ++ bytesD l))) := by
  cases l with
  | nil =>
    have e1 : H.set id (tb e (n + ([] : List UInt8).length) (cs ++ bytesD [])) = H := by
      show H.set id (tb e n (cs ++ [])) = H
      rw [List.append_nil]; exact set_same hb
    rw [e1]
    refine OpD.same fun K β ac w hw h hk => ?_
    have hxv := h X (by simp [Op.operands, Call.operands])
    have hyv := h Y (by simp [Op.operands, Call.operands])
    have hxk := hk X (by simp [Op.operands, Call.operands])
    rw [hx] at hxv hxk; rw [hy] at hyv
    refine ⟨_, ?_, hxv, hxk⟩
    have hr := append_nothingS (ty := ty) (w := w) E hu hxv
    have hyv' : ac.eval Y = .string ⟨#[]⟩ := hyv.v_inv
    simp only [execOp, resolve, List.map_toArray, List.map_cons, List.map_nil, hyv', invoke, builtin, Sem.run_bind, Sem.run_pure, Result.andThen_ok, hr]
  | cons a l =>
    have := o_appG (P := P) (C := C) (dst := dst) (ty := ty) (pos := pos) (after := after) (gu := gu) (n + (a :: l).length) hx hy (src_str (C := C) (ty := ty) E.ut hu hi) hb rfl rfl (by simp) (by rw [hn, Nat.mul_one]; exact Nat.le_refl _) h63 (by rw [Nat.mul_one]; exact hby)
    rwa [show (Blk.cs ⟨cs, e, true, n⟩).take (n * 1) = cs by rw [Nat.mul_one, ← hn]; exact List.take_length] at this
end
/-- A call that makes one block anew, and hands back a row of it. -/
theorem FunM.new1 {P : Program} {f : FuncId} {ds : List D} {H : Heap} {e : TypeId} {n sz : Nat} {cs : List D} (h : FunM P f ds [] fun o H' => o = .ret (ow 0 n sz) ∧ H' = [tb e n cs]) (hp : PureAll ds) (hc : ∀ c ∈ cs, Pure' c) : FunM P f ds H fun o H'' => o = .ret (ow H.length n sz) ∧ H'' = H ++ [tb e n cs] := by
  have hds : All2 (Ren (rho [] H.length)) ds ds := by
    have := hp.at
    clear h hp
    induction ds with
    | nil => trivial
    | cons d ds ih => exact ⟨.pure d (this d (by simp)), ih fun c hc => this c (by simp [hc])⟩
  exact FunM.frame [] [] [] [tb e n cs] h (by simp) trivial trivial hds rfl ⟨.pure hc, trivial⟩ (.own _ _ _ _ _ (by simp [rho])) rfl
end Go.DL
namespace Go.Proofs.Ytpdjcfhmdeeikaa
open Go.RowKit Go.DL

/-! ### Bits, as_ bytes -/
def qb (l : Nat → Bool) (k j : Nat) : Nat → Nat
  | 0 => 0
  | r + 1 => qb l k j r + (if 8 * j + r < k ∧ l (8 * j + r) = true then 2 ^ r else 0)
def qbits (l : Nat → Bool) (k m : Nat) : List UInt8 := (List.range m).map fun j => UInt8.ofNat (qb l k j 8)
theorem qbits_len (l : Nat → Bool) (k m : Nat) : (qbits l k m).length = m := by simp [qbits]
theorem qb_succ (l : Nat → Bool) (k j : Nat) : ∀ r, qb l (k + 1) j r = qb l k j r + (if 8 * j ≤ k ∧ k < 8 * j + r ∧ l k = true then 2 ^ (k - 8 * j) else 0)
  | 0 => by rw [qb, qb, if_neg (by omega)]
  | r + 1 => by
    rw [qb, qb, qb_succ l k j r]
    by_cases he : 8 * j + r = k
    · rw [he]
      by_cases hk : l k = true
      · rw [if_neg (by omega), if_pos ⟨by omega, hk⟩, if_neg (by omega), if_pos ⟨by omega, by omega, hk⟩, show k - 8 * j = r by omega]
      · rw [if_neg (by omega), if_neg (fun h => hk h.2), if_neg (by omega), if_neg (fun h => hk h.2.2)]
    · have h1 : (8 * j + r < k + 1 ∧ l (8 * j + r) = true) ↔ (8 * j + r < k ∧ l (8 * j + r) = true) := ⟨fun h => ⟨by omega, h.2⟩, fun h => ⟨by omega, h.2⟩⟩
      have h2 : (8 * j ≤ k ∧ k < 8 * j + (r + 1) ∧ l k = true) ↔ (8 * j ≤ k ∧ k < 8 * j + r ∧ l k = true) := ⟨fun h => ⟨by omega, by omega, h.2.2⟩, fun h => ⟨by omega, by omega, h.2.2⟩⟩
      simp only [h1, h2]; omega
theorem qb_lt (l : Nat → Bool) (k j : Nat) : ∀ r, qb l k j r < 2 ^ (min r (k - 8 * j))
  | 0 => by rw [qb]; exact Nat.pow_pos (by omega)
  | r + 1 => by
    have ih := qb_lt l k j r
    rw [qb]
    by_cases h : 8 * j + r < k
    · rw [show min (r + 1) (k - 8 * j) = r + 1 by omega, Nat.pow_succ]
      rw [show min r (k - 8 * j) = r by omega] at ih
      split <;> omega
    · rw [if_neg (fun hh => h hh.1), show min (r + 1) (k - 8 * j) = min r (k - 8 * j) by omega]
      exact ih
theorem qb_at (l : Nat → Bool) (k : Nat) : qb l k (k / 8) 8 < 2 ^ (k % 8) := by
  have := qb_lt l k (k / 8) 8
  rwa [show min 8 (k - 8 * (k / 8)) = k % 8 by omega] at this
theorem qb_zero (l : Nat → Bool) (k j : Nat) (h : k ≤ 8 * j) : qb l k j 8 = 0 := by
  have := qb_lt l k j 8
  rw [show min 8 (k - 8 * j) = 0 by omega] at this
  omega
theorem qbits_same {l : Nat → Bool} {k m : Nat} (h : ¬ l k = true) : qbits l (k + 1) m = qbits l k m := by
  unfold qbits
  apply List.map_congr_left
  intro j _
  rw [qb_succ, if_neg (fun hh => h hh.2.2), Nat.add_zero]
theorem qbits_set {l : Nat → Bool} {k m : Nat} (h : l k = true) (hm : k / 8 < m) : qbits l (k + 1) m = (qbits l k m).set (k / 8) (UInt8.ofNat (qb l k (k / 8) 8 + 2 ^ (k % 8))) := by
  apply List.ext_getElem?
  intro j
  rw [List.getElem?_set, qbits_len]
  unfold qbits
  by_cases hj : j < m
  · simp only [List.getElem?_map, List.getElem?_range hj, Option.map_some]
    rw [qb_succ]
    by_cases e : k / 8 = j
    · subst e
      rw [if_pos rfl, if_pos hj, if_pos ⟨by omega, by omega, h⟩, show k - 8 * (k / 8) = k % 8 by omega]
    · rw [if_neg e, if_neg (by omega), Nat.add_zero]
  · rw [if_neg (by omega), List.getElem?_eq_none (by simp; omega), List.getElem?_eq_none (by simp; omega)]
theorem or_bit {a r : Nat} (h : a < 2 ^ r) (hr : r < 8) : UInt8.ofNat a ||| UInt8.ofNat (2 ^ r) = UInt8.ofNat (a + 2 ^ r) := by
  have hp : 2 ^ r ≤ 128 := Nat.le_trans (Nat.pow_le_pow_right (by omega) (by omega : r ≤ 7)) (by decide)
  apply UInt8.toNat_inj.1
  rw [UInt8.toNat_or, UInt8.toNat_ofNat', UInt8.toNat_ofNat', UInt8.toNat_ofNat', Nat.mod_eq_of_lt (by omega), Nat.mod_eq_of_lt (by omega), Nat.mod_eq_of_lt (by omega)]
  have := Nat.two_pow_add_eq_or_of_lt h 1
  rw [Nat.mul_one] at this
  rw [Nat.or_comm, ← this, Nat.add_comm]
theorem qbits_get {l : Nat → Bool} {k m j : Nat} (h : j < m) (tl : List UInt8) : (bytesD (qbits l k m ++ tl))[0 + j * 1]? = some (B8 (UInt8.ofNat (qb l k j 8))) := by
  rw [Nat.mul_one, Nat.zero_add, bytesD, List.getElem?_map, List.getElem?_append_left (by rw [qbits_len]; exact h)]
  unfold qbits
  rw [List.getElem?_map, List.getElem?_range h]; rfl
theorem qbits_put {l : Nat → Bool} {k m : Nat} (h : l k = true) (hm : k / 8 < m) (tl : List UInt8) {c : UInt8} (hc : c = UInt8.ofNat (qb l k (k / 8) 8 + 2 ^ (k % 8))) : spl (bytesD (qbits l k m ++ tl)) (0 + k / 8 * 1) [B8 c] = bytesD (qbits l (k + 1) m ++ tl) := by
  subst hc
  rw [Nat.mul_one, Nat.zero_add, spl_one _ _ _ (by rw [bytesD_len, List.length_append, qbits_len]; omega), qbits_set h hm]
  unfold bytesD
  rw [← List.set_append_left _ _ (by rw [qbits_len]; exact hm), List.map_set]; rfl
theorem qbits_get1 {l : Nat → Bool} {k m j : Nat} (h : j < m) : (bytesD (qbits l k m))[0 + j * 1]? = some (B8 (UInt8.ofNat (qb l k j 8))) := by
  have := qbits_get (l := l) (k := k) h []
  rwa [List.append_nil] at this
theorem qbits_put1 {l : Nat → Bool} {k m : Nat} (h : l k = true) (hm : k / 8 < m) {c : UInt8} (hc : c = UInt8.ofNat (qb l k (k / 8) 8 + 2 ^ (k % 8))) : spl (bytesD (qbits l k m)) (0 + k / 8 * 1) [B8 c] = bytesD (qbits l (k + 1) m) := by
  have := qbits_put h hm [] hc
  rwa [List.append_nil, List.append_nil] at this
section
variable {P : Program} {C : Ctx} {env : Nat → D} {H : Heap} {dst : Option Nat} {ty t t' : TypeId} {pos : String} {after : Array Edge} {gu : Option (Nat × Bool)} {X Y : Operand}
theorem shl1_val {n : Nat} (hn : n < 8) : IntKind.u8.wrap ((1 : Int) * 2 ^ n) = ((UInt8.ofNat (2 ^ n)).toNat : Int) := by
  rcases (by omega : n = 0 ∨ n = 1 ∨ n = 2 ∨ n = 3 ∨ n = 4 ∨ n = 5 ∨ n = 6 ∨ n = 7) with h | h | h | h | h | h | h | h <;> subst h <;> rfl
theorem o_shl1 {n : Nat} (hx : ev env X = B8 1) (hy : ev env Y = N64 n) (hn : n < 8) : OpD P C ⟨dst, .binOp .shl t X Y t', ty, pos, after, gu⟩ env H (B8 (UInt8.ofNat (2 ^ n))) H :=
  (o_bin _ hx hy (shl_run (k := .u8) (x := 1) (n := n) (by show n ≤ 8; omega))).cast (v_int (shl1_val hn))
end
theorem zs_qbits (l : Nat → Bool) (n : Nat) : (zeros (.int .u8 0) (n * 1) 1).map D.v = bytesD (qbits l 0 n) := by
  unfold zeros qbits bytesD
  rw [Nat.mul_one, List.map_map, List.map_map]
  apply List.map_congr_left
  intro j _
  show D.v ([Value.int .u8 0].getD (j % 1) undef) = U8 (UInt8.ofNat (qb l 0 j 8)).toBitVec
  rw [Nat.mod_one, qb_zero l 0 j (by omega)]; rfl
theorem gd_at {b : List UInt8} {i : Nat} (h : i < b.length) : b[i] = b.getD i 0 := by simp [List.getD, h]
def bitAt (b : List UInt8) (i : Nat) : Bool := decide ((b.getD (i / 8) 0).toNat / 2 ^ (i % 8) % 2 = 1)
theorem and1 (x : BitVec 8) (n : Nat) : ((x >>> n) &&& 1#8).toNat = x.toNat / 2 ^ n % 2 := by
  rw [BitVec.toNat_and, BitVec.toNat_ushiftRight, Nat.shiftRight_eq_div_pow]
  exact Nat.and_one_is_mod _
theorem and1B (x : BitVec 8) (n : Nat) : U8 ((x >>> n) &&& 1#8) = B8 (UInt8.ofNat (x.toNat / 2 ^ n % 2)) := by
  show D.v (.int .u8 (_ : Int)) = D.v (.int .u8 (_ : Int))
  rw [and1, UInt8.toNat_ofNat', Nat.mod_eq_of_lt (b := 2 ^ 8) (by omega)]
theorem bit1 {m : Nat} (h : m < 2) : decide (UInt8.ofNat m = 1) = decide (m = 1) := by
  rcases (by omega : m = 0 ∨ m = 1) with h | h <;> subst h <;> rfl
def rall (n : Nat) (p : Nat → Bool) : Bool := (List.range n).all p
theorem rall_succ {k : Nat} {p : Nat → Bool} (h : rall k p = true) (hk : p k = true) : rall (k + 1) p = true := by
  unfold rall at *
  rw [List.range_succ, List.all_append, h]; simp [hk]
theorem rall_stop {n k : Nat} {p : Nat → Bool} (h : k < n) (hk : p k = false) : rall n p = false := by
  unfold rall
  rw [List.all_eq_false]; exact ⟨k, List.mem_range.2 h, by simp [hk]⟩
/-! ### A list's bits -/
abbrev lb (l : List Bool) (i : Nat) : Bool := l.getD i false
def bitsM (l : List Bool) : List UInt8 := qbits (lb l) l.length ((l.length + 7) / 8)
theorem bitsM_len (l : List Bool) : (bitsM l).length = (l.length + 7) / 8 := qbits_len _ _ _
theorem lb_at {l : List Bool} {i : Nat} (h : i < l.length) : l[i] = lb l i := by simp [List.getD, h]
abbrev rdO (l : List Bool) : D := .rd l.length (l.map Bo)
theorem shrI {k : Nat} : ((k : Int) % 8 % 18446744073709551616).toNat = k % 8 := by omega
set_option maxHeartbeats 4000000 in
theorem pbits_c (l : List Bool) (hl : l.length ≤ 1099511627776) : Fun Try.prog 25 [rdO l] (· = rdB (bitsM l)) := by
  refine Fun.of Try.func25 rfl (Nat.le_of_ble_eq_true rfl) fun C => ?_
  refine WC.seq fun Fh1_ h1_ => ?_
  refine WC.region ?_
  refine RG.op _ _ rfl rfl (o_assign (.v _) rfl) ?_
  refine RG.nil (h1_ _ ?_)
  refine WC.seq fun Fh2_ h2_ => ?_
  refine WC.region ?_
  refine RG.op _ _ rfl rfl (o_move (.rd _ _) rfl) ?_
  refine RG.op _ _ rfl rfl (o_len_rd rfl Try.underlying55) ?_
  refine RG.op _ _ rfl rfl (o_add rfl rfl (by first | omega | exact ubyte _ | (simp only [LS] <;> omega)) (by first | omega | exact ubyte _ | (simp only [LS] <;> omega))) ?_
  refine RG.op _ _ rfl rfl (o_quo rfl rfl (by first | omega | exact ubyte _ | (simp only [LS] <;> omega)) (by first | omega | exact ubyte _ | (simp only [LS] <;> omega)) (by first | omega | exact ubyte _ | (simp only [LS] <;> omega))) ?_
  refine RG.op _ _ rfl rfl (o_makeT ((l.length + 7) / 8) ((l.length + 7) / 8) ((l.length + 7) / 8) rfl rfl Try.underlying24 Ty.inf5 rfl rfl (by omega) (by omega) (by omega) (by omega) (by omega)) ?_
  refine RG.op _ _ rfl rfl (o_assign (.own _ _ _ _ _) rfl) ?_
  refine RG.nil (h2_ _ ?_)
  refine WC.seq fun Fh3_ h3_ => ?_
  refine WC.seq fun Fh4_ h4_ => ?_
  refine WC.region ?_
  refine RG.op _ _ rfl rfl (o_move (.rd _ _) rfl) ?_
  refine RG.op _ _ rfl rfl (o_len_rd rfl Try.underlying55) ?_
  refine RG.op _ _ rfl rfl (o_move (.v _) rfl) ?_
  refine RG.nil (h4_ _ ?_)
  refine WC.block ?_
  refine WC.loopU [4, 5, 13, 14, 15, 16, 17, 18, 19, 20, 21, 22, 23, 24, 25, 26, 27, 28, 29, 30] (fun (k : Nat) => [(13, I64 ((k : Nat) : Int))]) (fun (k : Nat) => [(0, tb 5 ((l.length + 7) / 8) (bytesD (qbits (lb l) k ((l.length + 7) / 8))))]) (fun (k : Nat) => k ≤ l.length) (fun (k : Nat) => l.length - k) 0 (by first | omega | exact ubyte _ | (simp only [LS] <;> omega)) ?lpa5_ ?lpb6_
  case lpa5_ =>
    exact .mk' ⟨⟨rfl, .v _⟩, trivial⟩ (same_refl _ _) (congrArg (fun c => [c]) (tb_eq rfl (zs_qbits (lb l) _))) (by repeat (first | exact trivial | refine And.intro (Nat.le_refl _) ?_ | refine And.intro trivial ?_ | refine And.intro (by show _ ≤ _; (first | omega | (simp only [LS] <;> omega))) ?_)) (by repeat (first | exact trivial | refine And.intro (one_ok (.own _ _ _ _ _ (Nat.le_refl _))) ?_ | refine And.intro (okp (by repeat (first | exact pu_bytes _ | exact pu_nil | exact pu_vs rfl | exact pu_map (fun _ => .v _) _ | exact pu_vals _ | refine pu_app ?_ ?_ | refine pu_cons (by exact pu_of rfl) ?_))) ?_))
  case lpb6_ =>
    rintro k hI
    have h7 : (qbits (lb l) k ((l.length + 7) / 8)).length = (l.length + 7) / 8 := qbits_len _ _ _
    refine WC.seq fun Fh7_ h7_ => ?_
    refine WC.region ?_
    refine RG.op _ _ rfl rfl (o_ltI rfl rfl) ?_
    refine RG.nil (h7_ _ ?_)
    refine WC.seq fun Fh8_ h8_ => ?_
    refine WC.cond _ rfl (fun c3 => ?_) (fun c3 => ?_)
    ·
      have p3 := c3
      try simp only [CN] at p3
      have hkl : k < l.length := by omega
      have hk8 : k / 8 < (l.length + 7) / 8 := by omega
      refine WC.skip (h8_ _ ?_)
      refine WC.seq fun Fh9_ h9_ => ?_
      refine WC.block ?_
      refine WC.seq fun Fh10_ h10_ => ?_
      refine WC.region ?_
      refine RG.op _ _ rfl rfl (o_move (.v _) rfl) ?_
      refine RG.op _ _ rfl rfl (o_ixn_M k rfl rfl Try.underlying55 (sz_of Ty.inf4) (by first | omega | exact ubyte _ | (simp only [LS] <;> omega)) (by first | omega | exact ubyte _ | (simp only [LS] <;> omega))) ?_
      refine RG.op _ _ rfl rfl (o_load_adr rfl Try.underlying4 rfl rfl) ?_
      refine RG.op _ _ rfl rfl (o_assign (.v _) rfl) ?_
      refine RG.op _ _ rfl rfl (o_assign (.v _) rfl) ?_
      refine RG.nil (h10_ _ ?_)
      refine WC.seq fun Fh11_ h11_ => ?_
      refine WC.region ?_
      refine RG.op _ _ rfl rfl (o_move (.v _) rfl) ?_
      refine RG.nil (h11_ _ ?_)
      refine WC.cond _ rfl (fun c5 => ?_) (fun c5 => ?_)
      ·
        have p5 := c5
        try simp only [CN] at p5
        have hbt : lb l k = true := (lb_at hkl).symm.trans c5
        refine WC.region ?_
        refine RG.op _ _ rfl rfl (o_move (.own _ _ _ _ _) rfl) ?_
        refine RG.op _ _ rfl rfl (o_move (.v _) rfl) ?_
        refine RG.op _ _ rfl rfl (o_quo rfl rfl (by first | omega | exact ubyte _ | (simp only [LS] <;> omega)) (by first | omega | exact ubyte _ | (simp only [LS] <;> omega)) (by first | omega | exact ubyte _ | (simp only [LS] <;> omega))) ?_
        refine RG.op _ _ rfl rfl (o_ixn_own (k / 8) rfl rfl Try.underlying24 (sz_of Ty.inf5) (by omega) (by omega)) ?_
        refine RG.op _ _ rfl rfl (o_load_ptr (d := B8 (UInt8.ofNat (qb (lb l) k (k / 8) 8))) rfl Try.underlying5 rfl rfl rfl (qbits_get1 hk8)) ?_
        refine RG.op _ _ rfl rfl (o_move (.v _) rfl) ?_
        refine RG.op _ _ rfl rfl (o_rem rfl rfl (by first | omega | exact ubyte _ | (simp only [LS] <;> omega)) (by first | omega | exact ubyte _ | (simp only [LS] <;> omega))) ?_
        refine RG.op _ _ rfl rfl (o_i64toU rfl Try.underlying3 Try.underlying66) ?_
        refine RG.op _ _ rfl rfl (o_shl1 rfl rfl (by omega)) ?_
        refine RG.op _ _ rfl rfl (o_orB rfl rfl) ?_
        refine RG.op _ _ rfl rfl (o_ixn_own (k / 8) rfl rfl Try.underlying24 (sz_of Ty.inf5) (by omega) (by omega)) ?_
        refine RG.op _ _ rfl rfl (o_store (d := .v _) rfl rfl rfl rfl (sz_of Ty.inf5) (by show 0 + k / 8 * 1 + 1 ≤ (bytesD _).length; rw [bytesD_len]; omega) rfl) ?_
        refine RG.nil (h9_ _ ?_)
        refine WC.region ?_
        refine RG.op _ _ rfl rfl (o_add rfl rfl (by first | omega | exact ubyte _ | (simp only [LS] <;> omega)) (by first | omega | exact ubyte _ | (simp only [LS] <;> omega))) ?_
        refine RG.op _ _ rfl rfl (o_move (.v _) rfl) ?_
        refine RG.nil (Exists.intro (k + 1) ⟨by first | omega | (simp only [LS] <;> omega), by first | omega | (simp only [LS] <;> omega), ?_⟩)
        exact .mk' ⟨⟨rfl, .v _⟩, trivial⟩ (by repeat (first | with_reducible exact same_refl _ _ | with_reducible refine same_updO (by with_unfolding_all exact rfl) ?_ | with_reducible refine same_updN ?_ | with_reducible refine same_updL (by with_unfolding_all exact rfl) ?_ | with_reducible refine same_forget (by with_unfolding_all exact rfl) ?_)) (congrArg (fun c => [c]) (tb_eq rfl (qbits_put1 hbt hk8 (by rw [shrI]; exact or_bit (qb_at (lb l) k) (by omega))))) (by repeat (first | exact trivial | refine And.intro (Nat.le_refl _) ?_ | refine And.intro trivial ?_ | refine And.intro (by show _ ≤ _; (first | omega | (simp only [LS] <;> omega))) ?_)) (by repeat (first | exact trivial | refine And.intro (one_ok (.own _ _ _ _ _ (Nat.le_refl _))) ?_ | refine And.intro (okp (by repeat (first | exact pu_bytes _ | exact pu_nil | exact pu_vs rfl | exact pu_map (fun _ => .v _) _ | exact pu_vals _ | refine pu_app ?_ ?_ | refine pu_cons (by exact pu_of rfl) ?_))) ?_))
      ·
        have p5 := c5
        try simp only [CN] at p5
        have hbf : ¬ lb l k = true := fun h => by rw [← lb_at hkl, show _ = false from c5] at h; cases h
        refine WC.skip (h9_ _ ?_)
        refine WC.region ?_
        refine RG.op _ _ rfl rfl (o_add rfl rfl (by first | omega | exact ubyte _ | (simp only [LS] <;> omega)) (by first | omega | exact ubyte _ | (simp only [LS] <;> omega))) ?_
        refine RG.op _ _ rfl rfl (o_move (.v _) rfl) ?_
        refine RG.nil (Exists.intro (k + 1) ⟨by first | omega | (simp only [LS] <;> omega), by first | omega | (simp only [LS] <;> omega), ?_⟩)
        exact .mk' ⟨⟨rfl, .v _⟩, trivial⟩ (by repeat (first | with_reducible exact same_refl _ _ | with_reducible refine same_updO (by with_unfolding_all exact rfl) ?_ | with_reducible refine same_updN ?_ | with_reducible refine same_updL (by with_unfolding_all exact rfl) ?_ | with_reducible refine same_forget (by with_unfolding_all exact rfl) ?_)) (congrArg (fun c => [c]) (tb_eq rfl (by rw [qbits_same hbf]))) (by repeat (first | exact trivial | refine And.intro (Nat.le_refl _) ?_ | refine And.intro trivial ?_ | refine And.intro (by show _ ≤ _; (first | omega | (simp only [LS] <;> omega))) ?_)) (by repeat (first | exact trivial | refine And.intro (one_ok (.own _ _ _ _ _ (Nat.le_refl _))) ?_ | refine And.intro (okp (by repeat (first | exact pu_bytes _ | exact pu_nil | exact pu_vs rfl | exact pu_map (fun _ => .v _) _ | exact pu_vals _ | refine pu_app ?_ ?_ | refine pu_cons (by exact pu_of rfl) ?_))) ?_))
    ·
      have p3 := c3
      try simp only [CN] at p3
      refine WC.exit (h3_ _ ?_)
      refine WC.seq fun Fh12_ h12_ => ?_
      refine WC.region ?_
      refine RG.op _ _ rfl rfl (o_move (.own _ _ _ _ _) rfl) ?_
      refine RG.op _ _ rfl rfl (o_assign (.own _ _ _ _ _) rfl) ?_
      refine RG.nil (h12_ _ ?_)
      refine WC.ret ?_
      exact Ends.r1 rfl (.tmp _ (.own _ _ _ _ _) rfl) (.tb rfl (by repeat (first | exact pu_bytes _ | exact pu_nil | exact pu_vs rfl | exact pu_map (fun _ => .v _) _ | exact pu_vals _ | refine pu_app ?_ ?_ | refine pu_cons (by exact pu_of rfl) ?_))) (by have e : k = l.length := (by omega); subst e; exact rd_eq (bitsM_len l).symm rfl)
end Go.Proofs.Ytpdjcfhmdeeikaa
namespace Go.Proofs.Ytpdjcfhmdeeikaa
open Go.RowKit Go.DL

theorem spl_mid {α : Type} {A B C E : List α} {o : Nat} (ho : o = A.length) (h : E.length = B.length) : spl (A ++ B ++ C) o E = A ++ E ++ C := by
  subst ho
  unfold spl
  rw [List.append_assoc A B C, List.take_left, h, ← List.append_assoc, show A.length + B.length = (A ++ B).length by simp, List.drop_left]
theorem zs1 {zv c : Value} (hz : zv.cells.toList = [c]) : ∀ n : Nat, (zeros zv (n * 1) 1).map D.v = List.replicate n (D.v c)
  | 0 => by simp [zeros]
  | n + 1 => by
    have ih := zs1 hz n
    unfold zeros at *
    rw [hz] at *
    rw [show (n + 1) * 1 = n * 1 + 1 by omega, List.range_succ, List.replicate_succ', ← ih]
    simp only [List.map_append, List.map_cons, List.map_nil]
    rw [Nat.mod_one]; rfl
theorem fill1 {α : Type} {g : α → D} {pre : List α} {k n : Nat} {z v : α} (h : k < n) (hl : pre.length = k) : spl ((pre ++ List.replicate (n - k) z).map g) (0 + k * 1) [g v] = ((pre ++ [v]) ++ List.replicate (n - (k + 1)) z).map g := by
  rw [show n - k = (n - (k + 1)) + 1 by omega, List.replicate_succ]
  have e : (pre ++ z :: List.replicate (n - (k + 1)) z).map g = pre.map g ++ [g z] ++ (List.replicate (n - (k + 1)) z).map g := by simp
  rw [e, spl_mid (B := [g z]) (E := [g v]) (by rw [List.length_map]; omega) rfl]; simp
def bitsOf (b : List UInt8) (n : Nat) : List Bool := (List.range n).map (bitAt b)
theorem bitsOf_len (b : List UInt8) (n : Nat) : (bitsOf b n).length = n := by simp [bitsOf]
theorem bitsOf_succ (b : List UInt8) (n : Nat) : bitsOf b (n + 1) = bitsOf b n ++ [bitAt b n] := by unfold bitsOf; rw [List.range_succ, List.map_append]; rfl
def padB (b : List UInt8) (n : Nat) : Bool := rall (8 * ((n + 7) / 8) - n) fun j => !bitAt b (n + j)
def getB (b : List UInt8) (n : Nat) : List Bool × Nat × Nat := if b.length < (n + 7) / 8 then ([], 0, 20) else if padB b n = false then ([], 0, 21) else (bitsOf b n, (n + 7) / 8, 0)
theorem getB_short {b : List UInt8} {n : Nat} (h : b.length < (n + 7) / 8) : getB b n = ([], 0, 20) := by unfold getB; rw [if_pos h]
theorem getB_pad {b : List UInt8} {n k : Nat} (h : ¬ b.length < (n + 7) / 8) (hk : n ≤ k) (hk2 : k < 8 * ((n + 7) / 8)) (h2 : bitAt b k = true) : getB b n = ([], 0, 21) := by
  have h3 : padB b n = false := rall_stop (k := k - n) (by omega) (by show (!bitAt b (n + (k - n))) = false; rw [show n + (k - n) = k by omega, h2]; rfl)
  unfold getB
  rw [if_neg h, if_pos h3]
theorem getB_ok {b : List UInt8} {n : Nat} (h : ¬ b.length < (n + 7) / 8) (hp : padB b n = true) : getB b n = (bitsOf b n, (n + 7) / 8, 0) := by
  unfold getB
  rw [if_neg h, if_neg (by rw [hp]; decide)]
theorem pad_step {b : List UInt8} {n k : Nat} (hk : n ≤ k) (h : rall (k - n) (fun j => !bitAt b (n + j)) = true) (h2 : bitAt b k = false) : rall (k + 1 - n) (fun j => !bitAt b (n + j)) = true := by
  rw [show k + 1 - n = (k - n) + 1 by omega]
  exact rall_succ h (by show (!bitAt b (n + (k - n))) = true; rw [show n + (k - n) = k by omega, h2]; rfl)
abbrev OB (r : List Bool × Nat × Nat) : D := .tup [rdO r.1, I64 r.2.1, I64 r.2.2]
set_option maxHeartbeats 4000000 in
theorem bit1_c (b : List UInt8) (i : Nat) (hi : i / 8 < b.length) (hb : b.length ≤ 10995116277760) : Fun Try.prog 48 [I64 ((i : Nat) : Int), .adr [rdB b]] (· = Bo (bitAt b i)) := by
  refine Fun.of Try.func48 rfl (Nat.le_of_ble_eq_true rfl) fun C => ?_
  refine WC.seq fun Fh1_ h1_ => ?_
  refine WC.region ?_
  refine RG.op _ _ rfl rfl (o_assign (.v _) rfl) ?_
  refine RG.nil (h1_ _ ?_)
  refine WC.seq fun Fh2_ h2_ => ?_
  refine WC.region ?_
  refine RG.op _ _ rfl rfl (o_load_adr rfl Try.underlying24 rfl rfl) ?_
  refine RG.op _ _ rfl rfl (o_move (.v _) rfl) ?_
  refine RG.op _ _ rfl rfl (o_quo rfl rfl (by first | omega | exact ubyte _ | (simp only [LS] <;> omega)) (by first | omega | exact ubyte _ | (simp only [LS] <;> omega)) (by first | omega | exact ubyte _ | (simp only [LS] <;> omega))) ?_
  refine RG.op _ _ rfl rfl (o_ixn_M (i / 8) rfl rfl Try.underlying24 (sz_of Ty.inf5) (by first | omega | exact ubyte _ | (simp only [LS] <;> omega)) (by first | omega | exact ubyte _ | (simp only [LS] <;> omega))) ?_
  refine RG.op _ _ rfl rfl (o_load_adr rfl Try.underlying5 rfl rfl) ?_
  refine RG.op _ _ rfl rfl (o_move (.v _) rfl) ?_
  refine RG.op _ _ rfl rfl ((o_rem (b := 8) rfl rfl (by omega) (by omega)).cast (congrArg I64 (show (i : Int) % 8 = ((i % 8 : Nat) : Int) by omega))) ?_
  refine RG.op _ _ rfl rfl ((o_i64toU rfl Try.underlying3 Try.underlying66).cast (congrArg N64 (show (((i % 8 : Nat) : Int) % 18446744073709551616).toNat = i % 8 by omega))) ?_
  refine RG.op _ _ rfl rfl (o_shr8 (x := (b[i / 8]).toBitVec) (i % 8) rfl rfl (by omega)) ?_
  refine RG.op _ _ rfl rfl ((o_and8 (y := 1#8) rfl rfl).cast (and1B _ _)) ?_
  refine RG.op _ _ rfl rfl (o_eqB (b := 1) rfl rfl) ?_
  refine RG.op _ _ rfl rfl (o_assign (.v _) rfl) ?_
  refine RG.nil (h2_ _ ?_)
  refine WC.ret ?_
  exact Ends.r1 rfl (.tmp _ (.v _) rfl) (.v _) (by rw [show bitAt b i = decide ((b[i / 8]).toBitVec.toNat / 2 ^ (i % 8) % 2 = 1) by unfold bitAt; rw [gd_at hi]; rfl]; exact congrArg Bo (bit1 (by omega)))
set_option maxHeartbeats 4000000 in
theorem getbits_c (b : List UInt8) (n : Nat) (hb : b.length ≤ 10995116277760) (hn : n ≤ 1099511627776) : Fun Try.prog 29 [rdB b, I64 ((n : Nat) : Int)] (· = OB (getB b n)) := by
  refine Fun.of Try.func29 rfl (Nat.le_of_ble_eq_true rfl) fun C => ?_
  refine WC.seq fun Fh1_ h1_ => ?_
  refine WC.region ?_
  refine RG.op _ _ rfl rfl (o_box (d := .rd _ _) rfl rfl) ?_
  refine RG.op _ _ rfl rfl (o_assign (.v _) rfl) ?_
  refine RG.op _ _ rfl rfl (o_assign (.v _) rfl) ?_
  refine RG.op _ _ rfl rfl (o_assign (.v _) rfl) ?_
  refine RG.nil (h1_ _ ?_)
  refine WC.seq fun Fh2_ h2_ => ?_
  refine WC.frz 0 _ [(2, .adr [rdB b])] rfl (by repeat (first | exact pu_bytes _ | exact pu_nil | exact pu_vs rfl | exact pu_map (fun _ => .v _) _ | exact pu_vals _ | refine pu_app ?_ ?_ | refine pu_cons (by exact pu_of rfl) ?_)) ⟨.ptr 0, trivial⟩ ?_
  refine WC.region ?_
  refine RG.op _ _ rfl rfl (o_move (.v _) rfl) ?_
  refine RG.op _ _ rfl rfl (o_add rfl rfl (by first | omega | exact ubyte _ | (simp only [LS] <;> omega)) (by first | omega | exact ubyte _ | (simp only [LS] <;> omega))) ?_
  refine RG.op _ _ rfl rfl (o_quo rfl rfl (by first | omega | exact ubyte _ | (simp only [LS] <;> omega)) (by first | omega | exact ubyte _ | (simp only [LS] <;> omega)) (by first | omega | exact ubyte _ | (simp only [LS] <;> omega))) ?_
  refine RG.op _ _ rfl rfl (o_assign (.v _) rfl) ?_
  refine RG.nil (h2_ _ ?_)
  refine WC.seq fun Fh3_ h3_ => ?_
  refine WC.seq fun Fh4_ h4_ => ?_
  refine WC.region ?_
  refine RG.op _ _ rfl rfl (o_load_adr rfl Try.underlying24 rfl rfl) ?_
  refine RG.op _ _ rfl rfl (o_len_rd rfl Try.underlying24) ?_
  refine RG.op _ _ rfl rfl (o_move (.v _) rfl) ?_
  refine RG.op _ _ rfl rfl (o_ltI rfl rfl) ?_
  refine RG.nil (h4_ _ ?_)
  refine WC.cond _ rfl (fun c2 => ?_) (fun c2 => ?_)
  ·
    have p2 := c2
    try simp only [CN] at p2
    refine WC.seq fun Fh5_ h5_ => ?_
    refine WC.region ?_
    refine RG.op _ _ rfl rfl (o_assign (.v _) rfl) ?_
    refine RG.op _ _ rfl rfl (o_assign (.v _) rfl) ?_
    refine RG.op _ _ rfl rfl (o_assign (.v _) rfl) ?_
    refine RG.nil (h5_ _ ?_)
    refine WC.ret ?_
    exact Ends.r3 rfl (.tmp _ (.v _) rfl) (.tmp _ (.v _) rfl) (.tmp _ (.v _) rfl) .nilr (.v _) (.v _) (by rw [getB_short (by omega)]; rfl)
  ·
    have p2 := c2
    try simp only [CN] at p2
    have hsh : ¬ b.length < (n + 7) / 8 := by omega
    refine WC.skip (h3_ _ ?_)
    refine WC.seq fun Fh6_ h6_ => ?_
    refine WC.region ?_
    refine RG.op _ _ rfl rfl (o_makeFunc) ?_
    refine RG.op _ _ rfl rfl (o_assign (.fn _ _) rfl) ?_
    refine RG.nil (h6_ _ ?_)
    refine WC.seq fun Fh7_ h7_ => ?_
    refine WC.seq fun Fh8_ h8_ => ?_
    refine WC.region ?_
    refine RG.op _ _ rfl rfl (o_move (.v _) rfl) ?_
    refine RG.op _ _ rfl rfl (o_assign (.v _) rfl) ?_
    refine RG.nil (h8_ _ ?_)
    refine WC.block ?_
    refine WC.loopU [4, 5, 6, 9, 21, 22, 23, 24, 25, 26, 27, 28, 29] (fun (k : Nat) => [(9, I64 ((k : Nat) : Int))]) (fun (k : Nat) => []) (fun (k : Nat) => n ≤ k ∧ k ≤ 8 * ((n + 7) / 8) ∧ rall (k - n) (fun j => !bitAt b (n + j)) = true) (fun (k : Nat) => 8 * ((n + 7) / 8) - k) n ⟨Nat.le_refl _, by omega, by rw [Nat.sub_self]; rfl⟩ ?lpa9_ ?lpb10_
    case lpa9_ =>
      exact .mk' ⟨⟨rfl, .v _⟩, trivial⟩ (same_refl _ _) (rfl) (by repeat (first | exact trivial | refine And.intro (Nat.le_refl _) ?_ | refine And.intro trivial ?_ | refine And.intro (by show _ ≤ _; (first | omega | (simp only [LS] <;> omega))) ?_)) (by repeat (first | exact trivial | refine And.intro (one_ok (.own _ _ _ _ _ (Nat.le_refl _))) ?_ | refine And.intro (okp (by repeat (first | exact pu_bytes _ | exact pu_nil | exact pu_vs rfl | exact pu_map (fun _ => .v _) _ | exact pu_vals _ | refine pu_app ?_ ?_ | refine pu_cons (by exact pu_of rfl) ?_))) ?_))
    case lpb10_ =>
      rintro k hI
      have hk1 := hI.1
      have hk2 := hI.2.1
      have hk3 := hI.2.2
      refine WC.seq fun Fh11_ h11_ => ?_
      refine WC.seq fun Fh12_ h12_ => ?_
      refine WC.region ?_
      refine RG.op _ _ rfl rfl (o_move (.v _) rfl) ?_
      refine RG.op _ _ rfl rfl (o_move (.v _) rfl) ?_
      refine RG.op _ _ rfl rfl (o_mul rfl rfl (by first | omega | exact ubyte _ | (simp only [LS] <;> omega)) (by first | omega | exact ubyte _ | (simp only [LS] <;> omega))) ?_
      refine RG.op _ _ rfl rfl (o_ltI rfl rfl) ?_
      refine RG.nil (h12_ _ ?_)
      refine WC.cond _ rfl (fun c6 => ?_) (fun c6 => ?_)
      ·
        have p6 := c6
        try simp only [CN] at p6
        have hk4 : k < 8 * ((n + 7) / 8) := by omega
        refine WC.skip (h11_ _ ?_)
        refine WC.seq fun Fh13_ h13_ => ?_
        refine WC.block ?_
        refine WC.seq fun Fh14_ h14_ => ?_
        refine WC.region ?_
        refine RG.op _ _ rfl rfl (o_move (.fn _ _) rfl) ?_
        refine RG.op _ _ rfl rfl (o_move (.v _) rfl) ?_
        refine RG.op _ _ rfl rfl (o_callV (ds := [I64 (k : Nat)]) (cs := [.adr [rdB b]]) (.inl rfl) Ty.cal48 (bit1_c b k (by omega) (by omega)) ⟨.inl rfl, trivial⟩ (by exact pua rfl)) ?_
        refine RG.nil (h14_ _ ?_)
        refine WC.cond _ rfl (fun c8 => ?_) (fun c8 => ?_)
        ·
          have p8 := c8
          try simp only [CN] at p8
          refine WC.seq fun Fh15_ h15_ => ?_
          refine WC.region ?_
          refine RG.op _ _ rfl rfl (o_assign (.v _) rfl) ?_
          refine RG.op _ _ rfl rfl (o_assign (.v _) rfl) ?_
          refine RG.op _ _ rfl rfl (o_assign (.v _) rfl) ?_
          refine RG.nil (h15_ _ ?_)
          refine WC.ret ?_
          exact Ends.r3 rfl (.tmp _ (.v _) rfl) (.tmp _ (.v _) rfl) (.tmp _ (.v _) rfl) .nilr (.v _) (.v _) (by rw [getB_pad hsh hk1 hk4 p8]; rfl)
        ·
          have p8 := c8
          try simp only [CN] at p8
          refine WC.skip (h13_ _ ?_)
          refine WC.region ?_
          refine RG.op _ _ rfl rfl (o_move (.v _) rfl) ?_
          refine RG.op _ _ rfl rfl (o_add rfl rfl (by first | omega | exact ubyte _ | (simp only [LS] <;> omega)) (by first | omega | exact ubyte _ | (simp only [LS] <;> omega))) ?_
          refine RG.op _ _ rfl rfl (o_assign (.v _) rfl) ?_
          refine RG.nil (Exists.intro (k + 1) ⟨⟨by omega, by omega, pad_step hk1 hk3 p8⟩, by first | omega | (simp only [LS] <;> omega), ?_⟩)
          exact .mk' ⟨⟨rfl, .v _⟩, trivial⟩ (by repeat (first | with_reducible exact same_refl _ _ | with_reducible refine same_updO (by with_unfolding_all exact rfl) ?_ | with_reducible refine same_updN ?_ | with_reducible refine same_updL (by with_unfolding_all exact rfl) ?_ | with_reducible refine same_forget (by with_unfolding_all exact rfl) ?_)) (rfl) (by repeat (first | exact trivial | refine And.intro (Nat.le_refl _) ?_ | refine And.intro trivial ?_ | refine And.intro (by show _ ≤ _; (first | omega | (simp only [LS] <;> omega))) ?_)) (by repeat (first | exact trivial | refine And.intro (one_ok (.own _ _ _ _ _ (Nat.le_refl _))) ?_ | refine And.intro (okp (by repeat (first | exact pu_bytes _ | exact pu_nil | exact pu_vs rfl | exact pu_map (fun _ => .v _) _ | exact pu_vals _ | refine pu_app ?_ ?_ | refine pu_cons (by exact pu_of rfl) ?_))) ?_))
      ·
        have p6 := c6
        try simp only [CN] at p6
        have hpad : padB b n = true := by have e : k = 8 * ((n + 7) / 8) := (by omega); rw [e] at hk3; exact hk3
        refine WC.exit (h7_ _ ?_)
        refine WC.seq fun Fh16_ h16_ => ?_
        refine WC.region ?_
        refine RG.op _ _ rfl rfl (o_move (.v _) rfl) ?_
        refine RG.op _ _ rfl rfl (o_makeT n n n rfl rfl Try.underlying55 Ty.inf4 rfl rfl (by omega) (by omega) (by omega) (by omega) (by omega)) ?_
        refine RG.op _ _ rfl rfl (o_assign (.own _ _ _ _ _) rfl) ?_
        refine RG.nil (h16_ _ ?_)
        refine WC.seq fun Fh17_ h17_ => ?_
        refine WC.seq fun Fh18_ h18_ => ?_
        refine WC.region ?_
        refine RG.op _ _ rfl rfl (o_move (.own _ _ _ _ _) rfl) ?_
        refine RG.op _ _ rfl rfl (o_len_own rfl Try.underlying55) ?_
        refine RG.op _ _ rfl rfl (o_move (.v _) rfl) ?_
        refine RG.nil (h18_ _ ?_)
        refine WC.block ?_
        refine WC.loopU [11, 34, 35, 36, 37, 38, 39, 40, 41, 42, 43] (fun (j : Nat) => [(34, I64 ((j : Nat) : Int))]) (fun (j : Nat) => [(1, tb 4 n ((bitsOf b j ++ List.replicate (n - j) false).map Bo))]) (fun (j : Nat) => j ≤ n) (fun (j : Nat) => n - j) 0 (by first | omega | exact ubyte _ | (simp only [LS] <;> omega)) ?lpa19_ ?lpb20_
        case lpa19_ =>
          exact .mk' ⟨⟨rfl, .v _⟩, trivial⟩ (same_refl _ _) (congrArg (fun c => [none, c]) (tb_eq rfl ((zs1 rfl n).trans (by simp [bitsOf])))) (by repeat (first | exact trivial | refine And.intro (Nat.le_refl _) ?_ | refine And.intro trivial ?_ | refine And.intro (by show _ ≤ _; (first | omega | (simp only [LS] <;> omega))) ?_)) (by repeat (first | exact trivial | refine And.intro (one_ok (.own _ _ _ _ _ (Nat.le_refl _))) ?_ | refine And.intro (okp (by repeat (first | exact pu_bytes _ | exact pu_nil | exact pu_vs rfl | exact pu_map (fun _ => .v _) _ | exact pu_vals _ | refine pu_app ?_ ?_ | refine pu_cons (by exact pu_of rfl) ?_))) ?_))
        case lpb20_ =>
          rintro j hI
          refine WC.seq fun Fh21_ h21_ => ?_
          refine WC.region ?_
          refine RG.op _ _ rfl rfl (o_ltI rfl rfl) ?_
          refine RG.nil (h21_ _ ?_)
          refine WC.seq fun Fh22_ h22_ => ?_
          refine WC.cond _ rfl (fun c12 => ?_) (fun c12 => ?_)
          ·
            have p12 := c12
            try simp only [CN] at p12
            have hjn : j < n := by omega
            refine WC.skip (h22_ _ ?_)
            refine WC.seq fun Fh23_ h23_ => ?_
            refine WC.block ?_
            refine WC.seq fun Fh24_ h24_ => ?_
            refine WC.region ?_
            refine RG.op _ _ rfl rfl (o_move (.v _) rfl) ?_
            refine RG.op _ _ rfl rfl (o_assign (.v _) rfl) ?_
            refine RG.nil (h24_ _ ?_)
            refine WC.region ?_
            refine RG.op _ _ rfl rfl (o_move (.own _ _ _ _ _) rfl) ?_
            refine RG.op _ _ rfl rfl (o_move (.v _) rfl) ?_
            refine RG.op _ _ rfl rfl (o_move (.fn _ _) rfl) ?_
            refine RG.op _ _ rfl rfl (o_move (.v _) rfl) ?_
            refine RG.op _ _ rfl rfl (o_callV (ds := [I64 (j : Nat)]) (cs := [.adr [rdB b]]) (.inl rfl) Ty.cal48 (bit1_c b j (by omega) (by omega)) ⟨.inl rfl, trivial⟩ (by exact pua rfl)) ?_
            refine RG.op _ _ rfl rfl (o_ixn_own j rfl rfl Try.underlying55 (sz_of Ty.inf4) (by omega) (by omega)) ?_
            refine RG.op _ _ rfl rfl (o_store (d := .v _) rfl rfl rfl rfl (sz_of Ty.inf4) (by show 0 + j * 1 + 1 ≤ (List.map Bo _).length; rw [List.length_map, List.length_append, List.length_replicate, bitsOf_len]; omega) rfl) ?_
            refine RG.nil (h23_ _ ?_)
            refine WC.region ?_
            refine RG.op _ _ rfl rfl (o_add rfl rfl (by first | omega | exact ubyte _ | (simp only [LS] <;> omega)) (by first | omega | exact ubyte _ | (simp only [LS] <;> omega))) ?_
            refine RG.op _ _ rfl rfl (o_move (.v _) rfl) ?_
            refine RG.nil (Exists.intro (j + 1) ⟨by first | omega | (simp only [LS] <;> omega), by first | omega | (simp only [LS] <;> omega), ?_⟩)
            exact .mk' ⟨⟨rfl, .v _⟩, trivial⟩ (by repeat (first | with_reducible exact same_refl _ _ | with_reducible refine same_updO (by with_unfolding_all exact rfl) ?_ | with_reducible refine same_updN ?_ | with_reducible refine same_updL (by with_unfolding_all exact rfl) ?_ | with_reducible refine same_forget (by with_unfolding_all exact rfl) ?_)) (congrArg (fun c => [none, c]) (tb_eq rfl (by rw [bitsOf_succ]; exact fill1 hjn (bitsOf_len b j)))) (by repeat (first | exact trivial | refine And.intro (Nat.le_refl _) ?_ | refine And.intro trivial ?_ | refine And.intro (by show _ ≤ _; (first | omega | (simp only [LS] <;> omega))) ?_)) (by repeat (first | exact trivial | refine And.intro (one_ok (.own _ _ _ _ _ (Nat.le_refl _))) ?_ | refine And.intro (okp (by repeat (first | exact pu_bytes _ | exact pu_nil | exact pu_vs rfl | exact pu_map (fun _ => .v _) _ | exact pu_vals _ | refine pu_app ?_ ?_ | refine pu_cons (by exact pu_of rfl) ?_))) ?_))
          ·
            have p12 := c12
            try simp only [CN] at p12
            refine WC.exit (h17_ _ ?_)
            refine WC.seq fun Fh25_ h25_ => ?_
            refine WC.region ?_
            refine RG.op _ _ rfl rfl (o_move (.own _ _ _ _ _) rfl) ?_
            refine RG.op _ _ rfl rfl (o_move (.v _) rfl) ?_
            refine RG.op _ _ rfl rfl (o_assign (.own _ _ _ _ _) rfl) ?_
            refine RG.op _ _ rfl rfl (o_assign (.v _) rfl) ?_
            refine RG.op _ _ rfl rfl (o_assign (.v _) rfl) ?_
            refine RG.nil (h25_ _ ?_)
            refine WC.ret ?_
            exact Ends.r3 rfl (.tmp _ (.own _ _ _ _ _) rfl) (.tmp _ (.v _) rfl) (.tmp _ (.v _) rfl) (.tb rfl (by repeat (first | exact pu_bytes _ | exact pu_nil | exact pu_vs rfl | exact pu_map (fun _ => .v _) _ | exact pu_vals _ | refine pu_app ?_ ?_ | refine pu_cons (by exact pu_of rfl) ?_))) (.v _) (.v _) (by rw [getB_ok hsh hpad]; have e : j = n := (by omega); subst e; exact congrArg (fun c => D.tup [c, _, I64 0]) (rd_eq (bitsOf_len b j).symm (by simp)))
end Go.Proofs.Ytpdjcfhmdeeikaa
namespace Go.DL
open Go.RowKit

/-- A round of the loop l whose record is r, on yield's arguments. -/
def RoundT (P : Program) (l : Nat) (r : Loop) (as_ : Array Value) (w : World) (R : Ending → World → Prop) : Prop :=
  RoundIn (FW none) 0 P l r.fn ((r.params.zip as_).foldl (fun tmps (t, a) => tmps.setIfInBounds t a) r.tmps) r.assign r.body w R
theorem round_FW {r1 r2 : Option Nat} {n m : Nat} {P : Program} {l : Nat} {f : FuncId} {tmps : Array Value} {assign body : Code} {w : World} {R : Ending → World → Prop} (h : RoundIn (FW r1) n P l f tmps assign body w R) : RoundIn (FW r2) m P l f tmps assign body w R :=
  ⟨trivial, fun c cs _ => let ⟨e, w', hr, s⟩ := h.2 c cs (room_FW _ _); ⟨e, w', hr, comes_FW (ComesIn.comes s)⟩⟩
theorem RoundT.mono {P : Program} {l : Nat} {r : Loop} {as_ : Array Value} {w : World} {R R' : Ending → World → Prop} (h : RoundT P l r as_ w R) (hr : ∀ e w, R e w → R' e w) : RoundT P l r as_ w R' := RoundIn.mono h hr
/-- How a call ends, by data. -/
def Post (K : Mem) (β : Nat → Nat → BT) (H : Heap) (w : World) (R : DOut → Heap → Prop) (e : Ending) (w' : World) : Prop :=
  ∃ v d K' β' H', Ext (given K β H w) K β H K' β' H' ∧ WS (given K β H w) K' β' H' w' ∧ DR K' β' true v d ∧ OkD H' d ∧ ((e = .returned v ∧ R (.ret d) H') ∨ (e = .panicked [{ v, recovered := false }] ∧ R (.pan d) H'))
section
variable {P : Program} {C : Ctx} {env : Nat → D} {H : Heap} {dst : Option Nat} {ty : TypeId} {pos : String} {after : Array Edge} {gu : Option (Nat × Bool)} {X : Operand}
/-- yield called: a round. -/
theorem x_yield {as_ : List Operand} {ats : Array TypeId} {ds : List D} {R : DOut → Heap → Prop} {l : Nat} {r : Loop} (hX : ev env X = .v (.func (.yield l) #[] #[])) (hW : C.W.heap[l]? = some (.loop r)) (hB : l < C.B) (hG : ¬ C.G l) (hn : as_.length = r.params.size) (he : ArgsAre env as_ ds)
    (hy : ∀ (K : Mem) (β : Nat → Nat → BT) (w : World) (vs : List Value), WS C K β H w → vs.length = ds.length → (∀ (j : Nat) v d, vs[j]? = some v → ds[j]? = some d → DR K β true v d) → (∀ d ∈ ds, OkD H d) → RoundT P l r vs.toArray w (Post K β H w R)) :
    OpX P C ⟨dst, .call { callee := .value X, args := as_.toArray, argTypes := ats }, ty, pos, after, gu⟩ env H R := by
  refine ⟨fun K β a w Kc Q hw hx hk hr hp => ?_⟩
  have hmX : X ∈ (Op.call { callee := .value X, args := as_.toArray, argTypes := ats }).operands := by simp [Op.operands, Call.operands]
  have hmem : ∀ x ∈ as_, x ∈ (Op.call { callee := .value X, args := as_.toArray, argTypes := ats }).operands := fun x h => by simp [Op.operands, Call.operands, h]
  have hXv : a.eval X = .func (.yield l) #[] #[] := by have h := hx X hmX; rw [hX] at h; exact h.v_inv
  have hh : w.heap[l]? = some (.loop r) := (hw.below.block l hB hG).trans hW
  have hrun : (execOp a.eval ⟨dst, .call { callee := .value X, args := as_.toArray, argTypes := ats }, ty, pos, after, gu⟩).run P w = (Instr.yield l (as_.map a.eval).toArray).run P w := by
    simp [execOp, resolve, hXv, Deferred.ofValue, invoke]
  rw [run_yield hh (by simp [hn])] at hrun
  obtain ⟨h1, h2, h3⟩ := args_rd (H := H) he (fun x h => hx x (hmem x h)) fun x h => hk x (hmem x h)
  refine ⟨fun _ _ => trivial, ?_⟩
  rw [Oper.semAt_eq _ _ _ (fun c h => by cases h), hrun]
  refine ⟨fun e => by simp [FW] at e, round_FW ((hy K β w (as_.map a.eval) hw h1 h2 h3).mono fun e w'' ⟨v, d, K', β', H', k1, k2, k3, k4, k5⟩ => ?_)⟩
  replace k1 := Ext.up hw k1
  replace k2 := hw.back k2
  rcases k5 with ⟨rfl, k5⟩ | ⟨rfl, k5⟩
  · exact hr _ _ _ _ _ _ k5 k1 k2 k3 k4
  · exact hp _ _ _ _ _ _ k5 k1 k2 k3 k4
end
/-! ### A round, out of its body's walk -/
def updPs (env : Nat → D) : List Nat → List D → (Nat → D)
  | p :: ps, d :: ds => updPs (upd env p d) ps ds
  | _, _ => env
theorem params_rd {K : Mem} {β : Nat → Nat → BT} : ∀ (ps : List Nat) (vs : List Value) (ds : List D) (tmps : Array Value) (env : Nat → D), vs.length = ds.length → (∀ p ∈ ps, p < tmps.size) → (∀ (j : Nat) v d, vs[j]? = some v → ds[j]? = some d → DR K β true v d) → (∀ t, DR K β true (tmps.getD t undef) (env t)) →
    (∀ t, DR K β true (((ps.zip vs).foldl (fun (tmps : Array Value) (x : Nat × Value) => tmps.setIfInBounds x.1 x.2) tmps).getD t undef) (updPs env ps ds t)) ∧ ((ps.zip vs).foldl (fun (tmps : Array Value) (x : Nat × Value) => tmps.setIfInBounds x.1 x.2) tmps).size = tmps.size
  | [], _, _, _, _, _, _, _, hr => ⟨by simpa [updPs] using hr, by simp⟩
  | p :: ps, [], [], _, _, _, _, _, hr => ⟨by simpa [updPs] using hr, by simp⟩
  | p :: ps, v :: vs, d :: ds, tmps, env, hl, hp, hv, hr => by
    have hk := hp p (by simp)
    have ih := params_rd ps vs ds (tmps.setIfInBounds p v) (upd env p d) (by simpa using hl) (fun q hq => by rw [Array.size_setIfInBounds]; exact hp q (by simp [hq])) (fun j x y hx hy => hv (j + 1) x y hx hy) fun t => by
      by_cases e : t = p
      · subst e
        rw [upd_at, Array.getD_eq_getD_getElem?, Array.getElem?_setIfInBounds_self_of_lt hk]
        exact hv 0 v d rfl rfl
      · rw [upd_ne _ _ e, Array.getD_eq_getD_getElem?, Array.getElem?_setIfInBounds_ne (Ne.symm e), ← Array.getD_eq_getD_getElem?]
        exact hr t
    exact ⟨ih.1, by rw [List.zip_cons_cons, List.foldl_cons]; exact ih.2.trans (by simp)⟩
  | _ :: _, _ :: _, [], _, _, hl, _, _, _ => by simp at hl
  | _ :: _, [], _ :: _, _, _, hl, _, _, _ => by simp at hl
theorem params_ok {H : Heap} : ∀ (ps : List Nat) (ds : List D) (env : Nat → D), (∀ d ∈ ds, OkD H d) → (∀ t, OkD H (env t)) → ∀ t, OkD H (updPs env ps ds t)
  | [], _, _, _, h, t => by simpa [updPs] using h t
  | _ :: _, [], _, _, h, t => by simpa [updPs] using h t
  | p :: ps, d :: ds, env, hd, h, t => params_ok ps ds (upd env p d) (fun x hx => hd x (by simp [hx])) (fun t => by
      by_cases e : t = p
      · subst e; rw [upd_at]; exact hd d (by simp)
      · rw [upd_ne _ _ e]; exact h t) t
/-- A body's end: off its end; the blocks that are kept are H'. -/
def bodyEnd (H' : Heap) (x : DX) (s : St) : Prop := x = .normal ∧ s.H.take H'.length = H' ∧ OkH H' H'
theorem round_of {P : Program} {C : Ctx} {N : Nat} {s : St} {K0 : Mem} {β0 : Nat → Nat → BT} {a : Act} {w0 : World} (h0 : SR C N K0 β0 s a w0) {l : Nat} {r : Loop} (hr : r.state = .ready ∧ r.pending = none ∧ r.tmps = a.tmps) {H H' : Heap} (hle : HLe s.H H) (hl' : H.length ≤ H'.length) {ds : List D} (hp : ∀ p ∈ r.params.toList, p < N)
    {K : Mem} {β : Nat → Nat → BT} {w : World} {vs : List Value} (hK0 : Mem.le K0 K) (hKl : K l = some (.loop r)) (hag : Agr s.H β0 β) (hws : WS (given K β H w) K β H w) (hl : vs.length = ds.length) (hv : ∀ (j : Nat) v d, vs[j]? = some v → ds[j]? = some d → DR K β true v d) (ho : ∀ d ∈ ds, OkD H d)
    (hb : ∀ C', WC P C' N r.assign ⟨updPs s.env r.params.toList ds, H⟩ (thenQ (fun s1 => ∀ C'', WC P C'' N r.body s1 (bodyEnd H')) fun _ _ => False)) :
    RoundT P l r vs.toArray w (Post K β H w fun o H'' => o = .ret (.v (.bool true)) ∧ H'' = H') := by
  have hh : w.heap[l]? = some (.loop r) := hws.holds l _ hKl
  have hlB : l < w.heap.size := hws.klt hKl
  have hng : ¬ gives β H l := fun ⟨id, b, hb', hrl, e⟩ => by
    have := hws.apart id b hb' hrl
    rw [e, hKl] at this; cases this
  have hin : inert (.loop r) := inert_loop r
  let C1 : Ctx := ⟨w.heap.size, w, gives β H, some l, H, β, K.del l⟩
  have hdl : ∀ b c, (K.del l) b = some c → K b = some c ∧ b ≠ l := fun b c hb' => by
    unfold Mem.del at hb'
    by_cases e : b = l
    · rw [if_pos e] at hb'; cases hb'
    · rw [if_neg e] at hb'; exact ⟨hb', e⟩
  have hw1 : WS C1 (K.del l) β H w := ⟨fun b c hb' => hws.holds b c (hdl b c hb').1, fun id b hb' => (hws.blk id b hb').drop hKl hin, hws.ok, hws.inj, fun id b hb' hrl => by
      unfold Mem.del
      split
      · rfl
      · exact hws.apart id b hb' hrl, fun id b hb' hrl => .inr ⟨id, b, hb', hrl, rfl⟩, Nat.le_refl _, Bel.start _, Agr.refl _ _, HLe.refl _, Mem.le.refl _⟩
  have hfold : (r.params.zip vs.toArray).foldl (fun tmps (t, a) => tmps.setIfInBounds t a) r.tmps = (r.params.toList.zip vs).foldl (fun (tmps : Array Value) (x : Nat × Value) => tmps.setIfInBounds x.1 x.2) a.tmps := by
    rw [hr.2.2, ← Array.foldl_toList, Array.toList_zip]
  obtain ⟨hrd, hsz⟩ := params_rd (K := K.del l) (β := β) r.params.toList vs ds a.tmps s.env hl (fun p hp' => by rw [h0.size]; exact hp p hp') (fun j v d h1 h2 => (hv j v d h1 h2).drop hKl hin) fun t => ((h0.rd t).mono hK0 (fun _ => h0.ok t) hag).drop hKl hin
  have hs1 : SR C1 N (K.del l) β ⟨updPs s.env r.params.toList ds, H⟩ ⟨(r.params.zip vs.toArray).foldl (fun tmps (t, a) => tmps.setIfInBounds t a) r.tmps, []⟩ w :=
    ⟨hw1, by rw [hfold]; exact hsz.trans h0.size, trivial, fun t => by rw [hfold]; exact hrd t, params_ok _ _ _ ho fun t => (h0.ok t).mono hle⟩
  unfold RoundT
  refine roundIn_of_wpIn (F := FW none) trivial ?_
  show r.assign.wpIn (FW C1.rd) 0 P _ _ w
  refine wpIn_mono (hb C1 _ _ _ _ hs1) fun e a1 w1 hA => ?_
  cases e with
  | normal =>
    obtain ⟨K1, β1, s1, hX1, hs1', hbody⟩ := hA.normal
    have hl1 : w1.heap[l]? = some (.loop r) := (hs1'.ws.below.block l hlB hng).trans hh
    have hK1l : K1 l = none := by
      cases e : K1 l with
      | none => rfl
      | some o =>
        rcases hX1.kx.new l o e with h1 | h1 | h1
        · exact absurd rfl (hdl l o h1).2
        · exact absurd hlB (Nat.not_lt.2 h1)
        · exact absurd h1 hng
    refine ⟨_, run_beginRound hl1 hr.1, ?_⟩
    have hlt1 : l < w1.heap.size := (Array.getElem?_eq_some_iff.1 hl1).1
    let w2 := w1.putObj l (.loop { r with state := .busy })
    let C2 : Ctx := { C1 with W := w2 }
    have hne : ∀ {β' : Nat → Nat → BT} {K' : Mem} {H'' : Heap} {w' : World} (h : WS C2 K' β' H'' w') {id : Nat} {b : Blk}, H''[id]? = some (some b) → (β' id b.ver).real = true → (β' id b.ver).blk ≠ l := fun {β' K' H'' w'} h {id b} hb' hrl e => by
      rcases h.base id b hb' hrl with h1 | h1
      · rw [e] at h1; exact absurd hlB (Nat.not_lt.2 h1)
      · rw [e] at h1; exact hng h1
    have hne1 : ∀ {id : Nat} {b : Blk}, s1.H[id]? = some (some b) → (β1 id b.ver).real = true → (β1 id b.ver).blk ≠ l := fun {id b} hb' hrl e => by
      rcases hs1'.ws.base id b hb' hrl with h1 | h1
      · rw [e] at h1; exact absurd hlB (Nat.not_lt.2 h1)
      · rw [e] at h1; exact hng h1
    have hw2 : WS C2 K1 β1 s1.H w2 := ⟨fun b c hb' => by
        rw [World.putObj_heap_other (fun e => by rw [e, hK1l] at hb'; cases hb')]; exact hs1'.ws.holds b c hb', fun id b hb' => (hs1'.ws.blk id b hb').other fun hrl => World.putObj_heap_other (hne1 hb' hrl), hs1'.ws.ok, hs1'.ws.inj, hs1'.ws.apart, hs1'.ws.base, by
        show C1.B ≤ (w1.putObj _ _).heap.size
        rw [World.putObj_size]; exact hs1'.ws.size, ⟨rfl, rfl, rfl, Nat.le_refl _, fun _ _ _ => rfl⟩, hs1'.ws.agr, hs1'.ws.hle, hs1'.ws.kle⟩
    have hs2 : SR C2 N K1 β1 s1 a1 w2 := ⟨hw2, hs1'.size, hs1'.defers, hs1'.rd, hs1'.ok⟩
    refine wpIn_mono (hbody C2 K1 β1 a1 w2 hs2) fun e3 a3 w3 hA3 => ?_
    obtain ⟨K3, β3, s3, x3, hX3, hs3, hx3, rfl, ht, hokH⟩ := hA3
    cases e3 <;> first | exact hx3.elim | skip
    have hl3 : w3.heap[l]? = some (.loop { r with state := .busy }) := (hs3.ws.below.block l hlB hng).trans (World.putObj_heap_same hlt1)
    have hlt3 : l < w3.heap.size := (Array.getElem?_eq_some_iff.1 hl3).1
    have hre : ({ ({ r with state := .busy } : Loop) with state := if (none : Option Code).isNone then .ready else .done, pending := none } : Loop) = r := by
      obtain ⟨h1, h2, _⟩ := hr
      cases r
      simp_all
    have hend := run_endRound (P := P) none hl3
    rw [hre] at hend
    refine ⟨_, _, hend, ?_⟩
    have hK3l : K3 l = none := by
      cases e : K3 l with
      | none => rfl
      | some o =>
        rcases hX3.kx.new l o e with h1 | h1 | h1
        · rw [hK1l] at h1; cases h1
        · exact absurd hlB (Nat.not_lt.2 h1)
        · exact absurd h1 hng
    have hle3 : Mem.le K3 (K3.add l (.loop r)) := Mem.le_add hK3l
    have hKle : Mem.le K (K3.add l (.loop r)) := fun b c hb' => by
      by_cases e : b = l
      · subst e; rw [hKl] at hb'; cases hb'; unfold Mem.add; rw [if_pos rfl]
      · exact hle3 _ _ (hX3.kx.le _ _ (hX1.kx.le _ _ (by unfold Mem.del; rw [if_neg e]; exact hb')))
    have hHle : HLe H H' := by
      have h1 := (hX1.le.trans hX3.le).take hl'
      rwa [ht] at h1
    have hagr : Agr H β β3 := hX1.ag.up hX1.le hX3.ag
    have hw3 := wsTake hs3.ws H'.length (by rw [ht]; exact hokH.at) (by rw [ht]; exact hHle)
    rw [ht] at hw3
    refine ⟨_, .v (.bool true), K3.add l (.loop r), β3, H', ⟨⟨hKle, fun b c hb' => ?_⟩, hagr, hHle⟩, ⟨fun b c hb' => ?_, fun id b hb' => ?_, hw3.ok, hw3.inj, fun id b hb' hrl => ?_, hw3.base, ?_, ?_, hagr, hHle, hKle⟩, .v _ _, .v _, .inl ⟨rfl, rfl, rfl⟩⟩
    · by_cases e : b = l
      · subst e; unfold Mem.add at hb'; rw [if_pos rfl] at hb'; cases hb'; exact .inl hKl
      · unfold Mem.add at hb'
        rw [if_neg e] at hb'
        rcases hX3.kx.new b c hb' with h1 | h1
        · rcases hX1.kx.new b c h1 with h2 | h2
          · exact .inl (hdl b c h2).1
          · exact .inr h2
        · exact .inr h1
    · by_cases e : b = l
      · subst e; unfold Mem.add at hb'; rw [if_pos rfl] at hb'; cases hb'; exact World.putObj_heap_same hlt3
      · unfold Mem.add at hb'
        rw [if_neg e] at hb'
        rw [World.putObj_heap_other e]; exact hs3.ws.holds b c hb'
    · exact ((hw3.blk id b hb').mono hle3 (hw3.ok id b hb') (Agr.refl _ _)).other fun hrl => World.putObj_heap_other (hne hw3 hb' hrl)
    · unfold Mem.add
      rw [if_neg (hne hw3 hb' hrl)]; exact hw3.apart id b hb' hrl
    · rw [World.putObj_size]; exact hw3.size
    · refine ⟨hs3.ws.below.os.trans hs1'.ws.below.os, hs3.ws.below.tape.trans hs1'.ws.below.tape, hs3.ws.below.output.trans hs1'.ws.below.output, by rw [World.putObj_size]; exact hw3.size, fun k hk hg => ?_⟩
      by_cases e : k = l
      · subst e; rw [World.putObj_heap_same hlt3]; exact hh.symm
      · rw [World.putObj_heap_other e]
        refine (hs3.ws.below.block k hk hg).trans ?_
        show (w1.putObj _ _).heap[k]? = _
        rw [World.putObj_heap_other e]; exact hs1'.ws.below.block k hk hg
  | _ =>
    obtain ⟨K1, β1, s1, x, _, _, hx, hq⟩ := hA
    cases x <;> first | exact hx.elim | exact hq.elim
end Go.DL
