/-
  A logic of data for the walks: places in rows by number, copies, strings, numbers of 8 and 64 bits, tables. Plain lemmas over any program; no condition.
-/
import Derived.Test.YtpacdeiaimfiaaaDlN
import Derived.Laws.IdiomStrings
set_option linter.unusedSimpArgs false
set_option linter.unusedVariables false
namespace Go.DL
open Go.RowKit

section
variable {P : Program} {C : Ctx} {env : Nat → D} {H H' : Heap} {dst : Option Nat} {ty t t' e : TypeId} {pos : String} {after : Array Edge} {gu : Option (Nat × Bool)} {X Y Z : Operand} {td : TypeDesc}

/-! ### Places in rows, by number -/
theorem o_ixn_M {α : Type} {l : List α} {g : α → D} {k : IntKind} {i : Int} (n : Nat) (hx : ev env X = .rd l.length (l.map g)) (hy : ev env Y = .v (.int k i)) (ht : P.underlying t = some (.slice e)) (hi : (P.info? e).map (·.size) = some 1) (hn : i = n) (h : n < l.length) :
    OpD P C ⟨dst, .indexAddr t X Y, ty, pos, after, gu⟩ env H (.adr (g l[n] :: (l.drop (n + 1)).map g)) H := by
  subst hn
  refine (o_ix_rd hx hy ht hi (by omega) (by omega) (by simp; omega)).cast ?_
  rw [Int.toNat_natCast, Nat.mul_one, ← List.map_drop, List.drop_eq_getElem_cons h, List.map_cons]
theorem flatMap_drop {α : Type} {f : α → List D} {sz : Nat} (hf : ∀ a, (f a).length = sz) : ∀ (l : List α) (n : Nat), (l.flatMap f).drop (n * sz) = (l.drop n).flatMap f
  | [], n => by simp
  | a :: l, 0 => by simp
  | a :: l, n + 1 => by
    rw [List.flatMap_cons, Nat.succ_mul, Nat.add_comm, ← List.drop_drop, List.drop_left' (hf a), List.drop_succ_cons, flatMap_drop hf l n]
theorem flatMap_len {α : Type} {f : α → List D} {sz : Nat} (hf : ∀ a, (f a).length = sz) : ∀ (l : List α), (l.flatMap f).length = l.length * sz
  | [] => by simp
  | a :: l => by rw [List.flatMap_cons, List.length_append, hf, flatMap_len hf l, List.length_cons, Nat.succ_mul, Nat.add_comm]
theorem flatMap_at {α : Type} {f : α → List D} {sz : Nat} (hf : ∀ a, (f a).length = sz) {l : List α} {n : Nat} (h : n < l.length) : (l.flatMap f).drop (n * sz) = f l[n] ++ (l.drop (n + 1)).flatMap f := by
  rw [flatMap_drop hf, List.drop_eq_getElem_cons h, List.flatMap_cons]
theorem o_ixn_L {α : Type} {l : List α} {f : α → List D} {sz : Nat} {k : IntKind} {i : Int} (n : Nat) (hf : ∀ a, (f a).length = sz) (hp : Nat.blt 0 sz = true) (hx : ev env X = .rd l.length (l.flatMap f)) (hy : ev env Y = .v (.int k i)) (ht : P.underlying t = some (.slice e)) (hi : (P.info? e).map (·.size) = some sz) (hn : i = n) (h : n < l.length) :
    OpD P C ⟨dst, .indexAddr t X Y, ty, pos, after, gu⟩ env H (.adr (f l[n] ++ (l.drop (n + 1)).flatMap f)) H := by
  subst hn
  have hp : 0 < sz := by simpa [Nat.blt_eq] using hp
  have hlt : n * sz < (l.flatMap f).length := by rw [flatMap_len hf]; exact Nat.mul_lt_mul_of_pos_right h hp
  refine (o_ix_rd hx hy ht hi (by omega) (by omega) (by rw [Int.toNat_natCast]; exact hlt)).cast ?_
  rw [Int.toNat_natCast, flatMap_at hf h]
theorem o_ixn_own {id ver off n sz sz' : Nat} {k : IntKind} {i : Int} (j : Nat) (hx : ev env X = .own id ver off n sz') (hy : ev env Y = .v (.int k i)) (ht : P.underlying t = some (.slice e)) (hi : (P.info? e).map (·.size) = some sz) (hn : i = j) (h : j < n) :
    OpD P C ⟨dst, .indexAddr t X Y, ty, pos, after, gu⟩ env H (.ptr id ver (off + j * sz)) H := by
  subst hn
  exact (o_ix_own hx hy ht hi (by omega) (by omega)).cast (by rw [Int.toNat_natCast])
theorem o_ixn_arr {id ver off len sz : Nat} {k : IntKind} {i : Int} (j : Nat) (hx : ev env X = .ptr id ver off) (hy : ev env Y = .v (.int k i)) (ht : P.underlying t = some (.array len e)) (hi : (P.info? e).map (·.size) = some sz) (hn : i = j) (h : j < len) :
    OpD P C ⟨dst, .indexAddr t X Y, ty, pos, after, gu⟩ env H (.ptr id ver (off + j * sz)) H := by
  subst hn
  exact (o_ix_arr hx hy ht hi (by omega) (by omega)).cast (by rw [Int.toNat_natCast])
/-- A struct or an array of a row that stays. -/
theorem o_load_adr_L {xs tl : List D} {n : Nat} (hx : ev env X = .adr (xs ++ tl)) (ht : P.underlying t = some td) (hf : flat td = false) (hi : (P.info? t).map (·.size) = some n) (hn : xs.length = n) : OpD P C ⟨dst, .load t X, ty, pos, after, gu⟩ env H (.agg xs) H :=
  (o_load_adr_agg hx ht hf hi (by simp; omega)).cast (by rw [List.take_left' hn])
theorem o_load_ptr_L {id ver off n : Nat} {b : Blk} {xs : List D} (hx : ev env X = .ptr id ver off) (ht : P.underlying t = some td) (hf : flat td = false) (hi : (P.info? t).map (·.size) = some n) (hb : H[id]? = some (some b)) (hv : b.ver = ver) (hn : Nat.ble (off + n) b.cs.length = true) (hxs : (b.cs.drop off).take n = xs) : OpD P C ⟨dst, .load t X, ty, pos, after, gu⟩ env H (.agg xs) H :=
  (o_load_ptr_agg hx ht hf hi hb hv (Nat.le_of_ble_eq_true hn)).cast (by rw [hxs])

/-! ### Copies -/
theorem set_same {H : Heap} {id : Nat} {b : Option Blk} (hb : H[id]? = some b) : H.set id b = H := by
  apply List.ext_getElem?
  intro j
  rw [List.getElem?_set]
  by_cases h : id = j
  · subst h; rw [if_pos rfl, if_pos (List.getElem?_eq_some_iff.1 hb).1, hb]
  · rw [if_neg h]
theorem copy_nothing {w : World} {sT : TypeId} {A A' : Option Addr} {n c m c' sz : Nat} (ht : P.underlying t = some (.slice e)) (hi : (P.info? e).map (·.size) = some sz) (h0 : min m n = 0) : (Builtin.copy_ #[t, sT] ty #[.slice A n c, .slice A' m c']).run P w = .ok (goInt 0) w := by
  obtain ⟨i, hi1, hi2⟩ := Option.map_eq_some_iff.1 hi
  have h0' : Nat.min m n = 0 := h0
  cases A <;> cases A' <;> simp [Builtin.copy_, run_underlying ht, Builtin.lenOf, Builtin.firstCells, sizeOf, typeInfo, hi1, h0', loadCells, loadCellsFrom, storeCells]
theorem o_copy {id ver off n m : Nat} {cs' : List D} {b : Blk} (k : Nat) (hx : ev env X = .own id ver off n 1) (hy : ev env Y = .rd m cs') (ht : P.underlying t = some (.slice e)) (hi : (P.info? e).map (·.size) = some 1) (hb : H[id]? = some (some b)) (hv : b.ver = ver) (hm : cs'.length = m) (hk : min m n = k) (hn : off + n ≤ b.cs.length) (h1 : ∀ d ∈ cs', oneD d = true) :
    OpD P C ⟨dst, .call { callee := .builtin .copy, args := #[X, Y], argTypes := #[t, t'] }, ty, pos, after, gu⟩ env H (I64 k) (H.set id (some { b with cs := spl b.cs off (cs'.take k) })) := by
  subst hv hm
  refine OpD.of (HLe.set hb (Nat.le_refl _)) fun K β ac w hw h hk' => ?_
  have hxv := h X (by simp [Op.operands, Call.operands])
  have hyv := h Y (by simp [Op.operands, Call.operands])
  rw [hx] at hxv; rw [hy] at hyv
  obtain ⟨A, c, us, e1, hmc, hlen, hc, hd⟩ := hyv.rd_inv
  obtain ⟨A', c', e2, hc'⟩ := hxv.own_len
  rcases Nat.eq_zero_or_pos k with h0 | h0
  · subst h0
    have hrun := copy_nothing (P := P) (ty := ty) (w := w) (sT := t') (A := A') (c := c') (A' := A) (c' := c) ht hi hk
    have hs : spl b.cs off (cs'.take 0) = b.cs := by unfold spl; simp
    rw [hs, set_same hb]
    refine ⟨K, β, _, w, ?_, KX.refl _ _, Agr.refl _ _, hw, .v _ _, .v _⟩
    simp only [execOp, resolve, List.map_toArray, List.map_cons, List.map_nil, e1, e2, invoke, builtin, Sem.run_bind, Sem.run_pure, Result.andThen_ok, hrun]; rfl
  · have hA : ∃ ad, A = some ad := by
      have : 0 < us.length := by omega
      obtain ⟨ad, h, _⟩ := hc 0 us[0] (List.getElem?_eq_getElem this)
      exact ⟨ad, h⟩
    obtain ⟨ad, rfl⟩ := hA
    rcases hxv.own_inv with ⟨c2, e3, hnc, _, _, hr⟩ | ⟨e3, _, hn0, _⟩
    · rw [e2] at e3
      cases e3
      obtain ⟨vs, rest, hh, hl, htot, hg, hdd⟩ := hw.real hb hr
      have hkl : (us.take k).length = k := by rw [List.length_take]; omega
      have hone : ∀ v ∈ us.take k, v.oneCell' = true := fun u hu => by
        obtain ⟨j, hj⟩ := List.getElem?_of_mem (List.mem_of_mem_take hu)
        have hlt : j < cs'.length := by rw [← hlen]; exact (List.getElem?_eq_some_iff.1 hj).1
        exact oneD.val (hd j u _ hj (List.getElem?_eq_getElem hlt)) (h1 _ (List.getElem_mem hlt))
      have hrun := run_copy_row (P := P) w t t' ty e (β id b.ver).blk off n c' ad cs'.length c (vs ++ rest).toArray b.e (us.take k) ht hi hh (by rw [hkl]; exact hk.symm) (fun j v hj => by
        have hj' : us[j]? = some v := by
          rw [List.getElem?_take] at hj
          split at hj
          · exact hj
          · cases hj
        obtain ⟨ad', ha, hcell⟩ := hc j v hj'
        cases ha; exact hw.cell hcell) (by rw [hkl]; simp; omega) hone
      have hput := hw.put hb hr (spl b.cs off (cs'.take k)) (spl vs off (us.take k)) rest
        (by rw [spl_length (by rw [hkl]; omega), spl_length (by rw [List.length_take]; omega), hl]) (by rw [spl_length (by rw [hkl]; omega)]; exact htot) hg
        (fun j u d hu hd' => by
          rw [spl_get (by rw [hkl]; omega)] at hu
          rw [spl_get (by rw [List.length_take]; omega)] at hd'
          have hckl : (cs'.take k).length = k := by rw [List.length_take]; omega
          rw [hkl] at hu; rw [hckl] at hd'
          by_cases hj1 : j < off
          · rw [if_pos hj1] at hu hd'; exact hdd j u d hu hd'
          · rw [if_neg hj1] at hu hd'
            by_cases hj2 : j < off + k
            · rw [if_pos hj2] at hu hd'
              have hj3 : j - off < k := by omega
              rw [List.getElem?_take, if_pos hj3] at hu hd'
              exact ((hd _ u d hu hd').mono (H := []) (Mem.le.refl K) (by intro h; cases h) (Agr.refl _ _)).up rfl
            · rw [if_neg hj2] at hu hd'; exact hdd j u d hu hd')
        (fun d hd' => by
          unfold spl at hd'
          rcases List.mem_append.1 hd' with h | h
          · rcases List.mem_append.1 h with h | h
            · exact hw.ok id b hb d (List.mem_of_mem_take h)
            · obtain ⟨j, hj⟩ := List.getElem?_of_mem (List.mem_of_mem_take h)
              have hlt : j < us.length := by rw [hlen]; exact (List.getElem?_eq_some_iff.1 hj).1
              exact (hd j _ d (List.getElem?_eq_getElem hlt) hj).okp rfl
          · exact hw.ok id b hb d (List.mem_of_mem_drop h))
      have hrow : (List.take off (vs ++ rest).toArray.toList ++ List.take k us ++ List.drop (off + (List.take k us).length) (vs ++ rest).toArray.toList).toArray = (spl vs off (us.take k) ++ rest).toArray := by
        congr 1
        unfold spl
        rw [List.take_append_of_le_length (by omega), List.drop_append_of_le_length (by rw [hkl]; omega)]
        simp
      rw [hrow, hkl] at hrun
      refine ⟨K, β, _, _, ?_, KX.refl _ _, Agr.refl _ _, hput, .v _ _, .v _⟩
      simp only [execOp, resolve, List.map_toArray, List.map_cons, List.map_nil, e1, e2, invoke, builtin, Sem.run_bind, Sem.run_pure, Result.andThen_ok, hrun]; rfl
    · omega

/-! ### Strings -/
abbrev S (l : List UInt8) : D := .v (.string (strB l))
theorem strB_size (l : List UInt8) : (strB l).size = l.length := by simp [ByteArray.size]
theorem strB_list (l : List UInt8) : (strB l).toList = l := ByteArray.toList_mk l
theorem o_lenS {l : List UInt8} (hx : ev env X = S l) (ht : P.underlying t = some .string) : OpD P C ⟨dst, .call { callee := .builtin .len, args := #[X], argTypes := #[t] }, ty, pos, after, gu⟩ env H (I64 l.length) H := o_len_s hx ht
theorem o_ixS {l : List UInt8} {k : IntKind} {i : Int} (n : Nat) (hx : ev env X = S l) (hy : ev env Y = .v (.int k i)) (ht : P.underlying t = some .string) (hn : i = n) (h : n < l.length) : OpD P C ⟨dst, .index t X Y, ty, pos, after, gu⟩ env H (U8 l[n].toBitVec) H := by
  subst hn
  refine OpD.same fun K β a w _ h' _ => ?_
  have h1 := h' X (by simp [Op.operands])
  have h2 := h' Y (by simp [Op.operands])
  rw [hx] at h1; rw [hy] at h2
  refine ⟨.int .u8 (l[n].toNat : Int), ?_, .v _ _, .v _⟩
  have hlt : n < (strB l).size := by rw [strB_size]; exact h
  have hg : (strB l)[n]? = some l[n] := by
    rw [ByteArray.getElem?_lt' _ _ hlt]; rfl
  simp [execOp, h1.v_inv, h2.v_inv, Instr.index, asIntOf, run_underlying ht, hg]
theorem o_str2 {op : BinOp} {l m : List UInt8} (r : Value) (hx : ev env X = S l) (hy : ev env Y = S m) (hr : ∀ w, (Op.stringOp op (strB l) (strB m)).run P w = .ok r w) : OpD P C ⟨dst, .binOp op t X Y t', ty, pos, after, gu⟩ env H (.v r) H := by
  refine OpD.same fun K β a w _ h _ => ⟨r, ?_, .v _ _, .v _⟩
  have h1 := h X (by simp [Op.operands])
  have h2 := h Y (by simp [Op.operands])
  rw [hx] at h1; rw [hy] at h2
  have hg : eqGuard op t X Y (.string (strB l)) (.string (strB m)) = .pure () := by cases op <;> rfl
  have hb : binOp op t (.string (strB l)) (.string (strB m)) = Op.stringOp op (strB l) (strB m) := by cases op <;> simp [binOp]
  simp [execOp, h1.v_inv, h2.v_inv, hg, hb, hr]
/-- Is a string ahead of another one? -/
abbrev bless (l m : List UInt8) : Bool := Op.bytesLess l m
theorem o_eqS' {l m : List UInt8} (hx : ev env X = S l) (hy : ev env Y = S m) : OpD P C ⟨dst, .binOp .eql t X Y t', ty, pos, after, gu⟩ env H (.v (.bool (l == m))) H := o_str2 _ hx hy fun w => by simp only [Op.stringOp, strB_list]; rfl
theorem o_neS' {l m : List UInt8} (hx : ev env X = S l) (hy : ev env Y = S m) : OpD P C ⟨dst, .binOp .neq t X Y t', ty, pos, after, gu⟩ env H (.v (.bool !(l == m))) H := o_str2 _ hx hy fun w => by simp only [Op.stringOp, strB_list]; rfl
theorem o_ltS {l m : List UInt8} (hx : ev env X = S l) (hy : ev env Y = S m) : OpD P C ⟨dst, .binOp .lss t X Y t', ty, pos, after, gu⟩ env H (.v (.bool (bless l m))) H := o_str2 _ hx hy fun w => by simp only [Op.stringOp, strB_list]; rfl
theorem o_leS {l m : List UInt8} (hx : ev env X = S l) (hy : ev env Y = S m) : OpD P C ⟨dst, .binOp .leq t X Y t', ty, pos, after, gu⟩ env H (.v (.bool (bless l m || l == m))) H := o_str2 _ hx hy fun w => by simp only [Op.stringOp, strB_list]; rfl
theorem o_gtS {l m : List UInt8} (hx : ev env X = S l) (hy : ev env Y = S m) : OpD P C ⟨dst, .binOp .gtr t X Y t', ty, pos, after, gu⟩ env H (.v (.bool !(bless l m || l == m))) H := o_str2 _ hx hy fun w => by simp only [Op.stringOp, strB_list]; rfl
theorem o_geS {l m : List UInt8} (hx : ev env X = S l) (hy : ev env Y = S m) : OpD P C ⟨dst, .binOp .geq t X Y t', ty, pos, after, gu⟩ env H (.v (.bool !(bless l m))) H := o_str2 _ hx hy fun w => by simp only [Op.stringOp, strB_list]; rfl
theorem o_catS {l m : List UInt8} (hx : ev env X = S l) (hy : ev env Y = S m) (h : l.length + m.length ≤ 9223372036854775807) : OpD P C ⟨dst, .binOp .add t X Y t', ty, pos, after, gu⟩ env H (S (l ++ m)) H := o_str2 _ hx hy fun w => by
  rw [run_string_add_sum w _ _ (by rw [strB_size, strB_size]; omega), ByteArray.mk_append_mk]
/-- A string as bytes. -/
theorem o_bytes {l : List UInt8} (hx : ev env X = S l) (hs : P.underlying t = some .string) (ht : P.underlying t' = some (.slice e)) (he : P.underlying e = some (.int .u8)) : OpD P C ⟨dst, .convert t t' X, ty, pos, after, gu⟩ env H (rdB l) H := by
  refine OpD.of (HLe.refl _) fun K β a w hw h _ => ?_
  have h1 := h X (by simp [Op.operands])
  rw [hx] at h1
  have hrun := run_bytes_of_string (P := P) w t t' e (strB l) hs ht he
  have hrow : (bytesRow (strB l) (grownCap w (strB l).size 0 e)).toList = (l.map fun b => Value.int .u8 (b.toNat : Int)) ++ List.replicate (grownCap w (strB l).size 0 e - (strB l).size) (Value.int .u8 0) := by simp [bytesRow]
  have hsz : (strB l).size ≤ grownCap w (strB l).size 0 e := grownCap_ge _ _ _ _
  generalize hC : bytesRow (strB l) (grownCap w (strB l).size 0 e) = C at hrun hrow
  generalize hc : grownCap w (strB l).size 0 e = c at hrun hrow hsz
  rw [strB_size] at hsz
  have hd := hw.drew
  refine ⟨K.add w.heap.size (.cells C e (C.size, C.size + 1)), β, .slice (some ⟨w.heap.size, 0, none⟩) (strB l).size c, _, ?_, ⟨Mem.le_add hw.fresh, fun b o hb => ?_⟩, Agr.refl _ _, hd.still C e (C.size, C.size + 1), ?_, .rd _ _⟩
  · simp only [execOp, h1.v_inv, Sem.run_bind, hrun, Result.andThen_ok, Sem.run_pure]
  · unfold Mem.add at hb
    by_cases he' : b = w.heap.size
    · exact .inr (.inl (by rw [he']; exact hw.size))
    · rw [if_neg he'] at hb; exact .inl hb
  · rw [strB_size]
    refine .rd _ _ _ c (l.map fun b => Value.int .u8 (b.toNat : Int)) _ hsz (by simp [bytesD]) (fun j u hu => ⟨_, rfl, ?_⟩) fun j u d hu hd' => ?_
    · rw [add_lit]
      unfold Mem.cell Mem.add
      simp only [if_true, Option.isSome_none, Bool.false_eq_true, if_false, Nat.zero_add]
      rw [← Array.getElem?_toList, hrow, List.getElem?_append_left (List.getElem?_eq_some_iff.1 hu).1]; exact hu
    · rw [List.getElem?_map] at hu
      unfold bytesD at hd'
      rw [List.getElem?_map] at hd'
      cases hb : l[j]? with
      | none => rw [hb] at hu; cases hu
      | some x => rw [hb] at hu hd'; simp at hu hd'; subst hu hd'; exact .v _ _
end
end Go.DL
