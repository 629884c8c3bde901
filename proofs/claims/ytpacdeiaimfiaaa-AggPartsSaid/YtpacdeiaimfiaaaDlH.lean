/-
  A logic of data for the walks: whole numbers, bytes, slices, appends, strings. Plain lemmas over any program; no condition.
-/
import Derived.Test.YtpacdeiaimfiaaaDlG
import Derived.Laws.BytesArg
import Derived.Laws.BytesString
import Derived.Laws.Small
import Derived.Laws.Strings
set_option linter.unusedSimpArgs false
set_option linter.unusedVariables false
namespace Go.DL
open Go.RowKit

section
variable {P : Program} {C : Ctx} {env : Nat → D} {H : Heap} {dst : Option Nat} {ty t t' e : TypeId} {pos : String} {after : Array Edge} {gu : Option (Nat × Bool)} {X Y Z : Operand}
theorem w64 {n : Int} (h1 : -9223372036854775808 ≤ n) (h2 : n ≤ 9223372036854775807) : IntKind.i64.wrap n = n := by rw [IntKind.wrap_i64]; omega
theorem o_add {a b : Int} (hx : ev env X = I64 a) (hy : ev env Y = I64 b) (h1 : -9223372036854775808 ≤ a + b) (h2 : a + b ≤ 9223372036854775807) : OpD P C ⟨dst, .binOp .add t X Y t', ty, pos, after, gu⟩ env H (I64 (a + b)) H :=
  (o_bin (.int .i64 (IntKind.i64.wrap (a + b))) hx hy rfl).cast (v_int (w64 h1 h2))
theorem o_sub {a b : Int} (hx : ev env X = I64 a) (hy : ev env Y = I64 b) (h1 : -9223372036854775808 ≤ a - b) (h2 : a - b ≤ 9223372036854775807) : OpD P C ⟨dst, .binOp .sub t X Y t', ty, pos, after, gu⟩ env H (I64 (a - b)) H :=
  (o_bin (.int .i64 (IntKind.i64.wrap (a - b))) hx hy rfl).cast (v_int (w64 h1 h2))
theorem o_mul {a b : Int} (hx : ev env X = I64 a) (hy : ev env Y = I64 b) (h1 : -9223372036854775808 ≤ a * b) (h2 : a * b ≤ 9223372036854775807) : OpD P C ⟨dst, .binOp .mul t X Y t', ty, pos, after, gu⟩ env H (I64 (a * b)) H :=
  (o_bin (.int .i64 (IntKind.i64.wrap (a * b))) hx hy rfl).cast (v_int (w64 h1 h2))
theorem o_quo {a b : Int} (hx : ev env X = I64 a) (hy : ev env Y = I64 b) (h0 : 0 ≤ a) (h1 : 0 < b) (h2 : a ≤ 9223372036854775807) : OpD P C ⟨dst, .binOp .quo t X Y t', ty, pos, after, gu⟩ env H (I64 (a / b)) H :=
  (o_bin (.int .i64 (IntKind.i64.wrap (a.tdiv b))) hx hy (by show Op.intDiv .quo .i64 a b = _; unfold Op.intDiv; rw [if_neg (by omega)]; rfl)).cast (v_int (by
    rw [Int.tdiv_eq_ediv_of_nonneg h0, w64 _ _]
    · have := Int.ediv_nonneg h0 (Int.le_of_lt h1); omega
    · have := Int.ediv_le_self b h0; omega))
theorem o_rem {k : IntKind} {a b : Int} (hx : ev env X = .v (.int k a)) (hy : ev env Y = .v (.int k b)) (h0 : 0 ≤ a) (h1 : 0 < b) : OpD P C ⟨dst, .binOp .rem t X Y t', ty, pos, after, gu⟩ env H (.v (.int k (a % b))) H :=
  (o_bin (.int k (a.tmod b)) hx hy (by
    have : binOp .rem t (.int k a) (.int k b) = if k ≠ k then stuck "BinOp: operands of different kinds" else Op.intDiv .rem k a b := by cases k <;> rfl
    rw [this, if_neg (by simp)]; unfold Op.intDiv; rw [if_neg (by omega)]; rfl)).cast (v_int (Int.tmod_eq_emod_of_nonneg h0))
theorem eqGuard_bool (op : BinOp) (a b : Bool) : eqGuard op t X Y (.bool a) (.bool b) = .pure () := by cases op <;> rfl
theorem eqGuard_str (op : BinOp) (a b : ByteArray) : eqGuard op t X Y (.string a) (.string b) = .pure () := by cases op <;> rfl
/-- '==' and '!=' on Bools. -/
theorem o_eqb {a b : Bool} (hx : ev env X = .v (.bool a)) (hy : ev env Y = .v (.bool b)) (ht : P.underlying t = some .bool) : OpD P C ⟨dst, .binOp .eql t X Y t', ty, pos, after, gu⟩ env H (.v (.bool (a == b))) H := by
  refine OpD.same fun K β ac w _ h _ => ⟨_, ?_, .v _ _, .v _⟩
  have h1 := h X (by simp [Op.operands])
  have h2 := h Y (by simp [Op.operands])
  rw [hx] at h1; rw [hy] at h2
  have e : (binOp .eql t (.bool a) (.bool b)).run P w = .ok (.bool (a == b)) w := by
    show ((Op.equal t (.bool a) (.bool b)) >>= fun r => Pure.pure (Value.bool r)).run P w = _
    rw [Sem.run_bind, run_equal_bool w t a b ht]; rfl
  simp only [execOp, h1.v_inv, h2.v_inv, eqGuard_bool, Sem.run_bind, Sem.run_pure', e, Result.andThen_ok, Sem.run_pure]
theorem o_neb {a b : Bool} (hx : ev env X = .v (.bool a)) (hy : ev env Y = .v (.bool b)) (ht : P.underlying t = some .bool) : OpD P C ⟨dst, .binOp .neq t X Y t', ty, pos, after, gu⟩ env H (.v (.bool (a != b))) H := by
  refine OpD.same fun K β ac w _ h _ => ⟨_, ?_, .v _ _, .v _⟩
  have h1 := h X (by simp [Op.operands])
  have h2 := h Y (by simp [Op.operands])
  rw [hx] at h1; rw [hy] at h2
  have e : (binOp .neq t (.bool a) (.bool b)).run P w = .ok (.bool (a != b)) w := by
    show ((Op.equal t (.bool a) (.bool b)) >>= fun r => Pure.pure (Value.bool !r)).run P w = _
    rw [Sem.run_bind, run_equal_bool w t a b ht]; rfl
  simp only [execOp, h1.v_inv, h2.v_inv, eqGuard_bool, Sem.run_bind, Sem.run_pure', e, Result.andThen_ok, Sem.run_pure]
/-- '==' and '!=' on strings. -/
theorem o_eqs {a b : ByteArray} (hx : ev env X = .v (.string a)) (hy : ev env Y = .v (.string b)) : OpD P C ⟨dst, .binOp .eql t X Y t', ty, pos, after, gu⟩ env H (.v (.bool (a.toList == b.toList))) H := by
  refine OpD.same fun K β ac w _ h _ => ⟨_, ?_, .v _ _, .v _⟩
  have h1 := h X (by simp [Op.operands])
  have h2 := h Y (by simp [Op.operands])
  rw [hx] at h1; rw [hy] at h2
  simp only [execOp, h1.v_inv, h2.v_inv, binOp_string_eql, eqGuard_str, Sem.run_bind, Sem.run_pure', Result.andThen_ok, Sem.run_pure]
theorem o_nes {a b : ByteArray} (hx : ev env X = .v (.string a)) (hy : ev env Y = .v (.string b)) : OpD P C ⟨dst, .binOp .neq t X Y t', ty, pos, after, gu⟩ env H (.v (.bool !(a.toList == b.toList))) H := by
  refine OpD.same fun K β ac w _ h _ => ⟨_, ?_, .v _ _, .v _⟩
  have h1 := h X (by simp [Op.operands])
  have h2 := h Y (by simp [Op.operands])
  rw [hx] at h1; rw [hy] at h2
  simp only [execOp, h1.v_inv, h2.v_inv, binOp_string_neq, eqGuard_str, Sem.run_bind, Sem.run_pure', Result.andThen_ok, Sem.run_pure]

theorem shrI_run {k : IntKind} {x b : Int} (h0 : 0 ≤ b) (hn : b.toNat ≤ k.bits) : binOp .shr t (.int k x) (.int .i64 b) = .pure (.int k (x.fdiv (2 ^ b.toNat))) := by
  show Op.shift .shr k x .i64 b = _
  unfold Op.shift
  rw [if_neg (by omega)]
  simp only [Nat.min_eq_left hn]; rfl
/-- A shift to the right by a count that may be below nought, of a byte. -/
theorem o_shr8I {x : BitVec 8} {b : Int} (hx : ev env X = U8 x) (hy : ev env Y = I64 b) (h0 : 0 ≤ b) (hn : b ≤ 8) : OpD P C ⟨dst, .binOp .shr t X Y t', ty, pos, after, gu⟩ env H (.v (.int .u8 ((x.toNat / 2 ^ b.toNat : Nat) : Int))) H :=
  (o_bin _ hx hy (shrI_run h0 (show b.toNat ≤ 8 by omega))).cast (v_int (fdiv_pow _ _))

/-! ### Cuts of slices -/
theorem run_cut {w : World} {A : Option Addr} {n c lo hi sz : Nat} {l h : Option Value} (ht : P.underlying t = some (.slice e)) (hi' : (P.info? e).map (·.size) = some sz)
    (hl : (l = none ∧ lo = 0) ∨ ∃ k, l = some (.int k (lo : Int))) (hh : (h = none ∧ hi = n) ∨ ∃ k, h = some (.int k (hi : Int))) (h1 : lo ≤ hi) (h2 : hi ≤ c) :
    (Instr.sliceAt t (.slice A n c) l h none).run P w = .ok (.slice (if c = lo then A else A.map (·.add (lo * sz))) (hi - lo) (c - lo)) w := by
  obtain ⟨inf, hi1, hi2⟩ := Option.map_eq_some_iff.1 hi'
  rcases hl with ⟨rfl, rfl⟩ | ⟨k, rfl⟩ <;> rcases hh with ⟨rfl, rfl⟩ | ⟨k', rfl⟩
  all_goals
    simp [Instr.sliceAt, run_underlying ht, Instr.slice, Instr.sliceBounds, Instr.sliceBound, asIntOf, sizeOf, typeInfo, hi1, hi2, h1, h2]
/-- A bound of a cut. -/
def bnd (env : Nat → D) (lo : Nat) : Option Operand → Prop
  | none => lo = 0
  | some y => ∃ k, ev env y = .v (.int k (lo : Int))
def bndH (env : Nat → D) (n hi : Nat) : Option Operand → Prop
  | none => hi = n
  | some y => ∃ k, ev env y = .v (.int k (hi : Int))
theorem o_cut_rd {n sz lo hi : Nat} {cs cs' : List D} {yl yh : Option Operand} (hx : ev env X = .rd n cs) (hl : bnd env lo yl) (hh : bndH env n hi yh) (ht : P.underlying t = some (.slice e)) (hi' : (P.info? e).map (·.size) = some sz) (h1 : lo ≤ hi) (h2 : hi ≤ n)
    (hcs : (cs.drop (lo * sz)).take ((hi - lo) * sz) = cs') : OpD P C ⟨dst, .slice t X yl yh none, ty, pos, after, gu⟩ env H (.rd (hi - lo) cs') H := by
  subst hcs
  refine OpD.same fun K β ac w _ h _ => ?_
  have h0 := h X (by simp [Op.operands])
  rw [hx] at h0
  obtain ⟨A, c, us, e1, hn, hlen, hc, hd⟩ := h0.rd_inv
  have el : (yl.map ac.eval = none ∧ lo = 0) ∨ ∃ k, yl.map ac.eval = some (.int k (lo : Int)) := by
    cases yl with
    | none => exact .inl ⟨rfl, hl⟩
    | some y =>
      obtain ⟨k, hk⟩ := hl
      have := h y (by simp [Op.operands])
      rw [hk] at this
      exact .inr ⟨k, by simp [this.v_inv]⟩
  have eh : (yh.map ac.eval = none ∧ hi = n) ∨ ∃ k, yh.map ac.eval = some (.int k (hi : Int)) := by
    cases yh with
    | none => exact .inl ⟨rfl, hh⟩
    | some y =>
      obtain ⟨k, hk⟩ := hh
      have := h y (by simp [Op.operands])
      rw [hk] at this
      exact .inr ⟨k, by simp [this.v_inv]⟩
  refine ⟨.slice (if c = lo then A else A.map (·.add (lo * sz))) (hi - lo) (c - lo), ?_, .rd _ _ _ _ ((us.drop (lo * sz)).take ((hi - lo) * sz)) _ (by omega) (by simp [hlen]) (fun j u hu => ?_) (fun j u d hu hd' => ?_), .rd _ _⟩
  · simp only [execOp, e1, Option.map_none, Sem.run_bind, run_cut (w := w) (A := A) (c := c) ht hi' el eh h1 (by omega), Result.andThen_ok, Sem.run_pure]
  · rw [List.getElem?_take] at hu
    split at hu
    · rename_i hj
      rw [List.getElem?_drop] at hu
      obtain ⟨ad, rfl, hk⟩ := hc _ u hu
      have : ¬ c = lo := by
        intro e; subst e
        have : hi - c = 0 := by omega
        rw [this] at hj; simp at hj
      rw [if_neg this]
      exact ⟨_, rfl, by rw [add_add]; exact hk⟩
    · cases hu
  · rw [List.getElem?_take] at hu hd'
    split at hu
    · rw [if_pos (by assumption)] at hd'
      rw [List.getElem?_drop] at hu hd'
      exact hd _ u d hu hd'
    · cases hu
/-- A slice of a whole array of the call's own. -/
theorem o_cut_arr {id ver len sz : Nat} {b : Blk} (hx : ev env X = .ptr id ver 0) (ht : P.underlying t = some (.array len e)) (hi' : (P.info? e).map (·.size) = some sz) (hb : H[id]? = some (some b)) (hv : b.ver = ver) (hg : b.grow = false) (hlen : len * sz = b.cs.length) (hm : len ≤ 9223372036854775807) :
    OpD P C ⟨dst, .slice t X none none none, ty, pos, after, gu⟩ env H (.own id ver 0 len sz) H := by
  subst hv
  refine OpD.same fun K β ac w hw h hk => ?_
  have h0 := h X (by simp [Op.operands])
  have hk0 := hk X (by simp [Op.operands])
  rw [hx] at h0 hk0
  obtain ⟨e1, hr⟩ := h0.ptr_inv
  obtain ⟨us, rest, hh, hl, htot, hgr, _⟩ := hw.real hb hr
  have hrest := hgr hg
  subst hrest
  obtain ⟨inf, hi1, hi2⟩ := Option.map_eq_some_iff.1 hi'
  have hz : (0 : Nat) * sz = 0 := by simp
  refine ⟨.slice (some ⟨(β id b.ver).blk, 0, none⟩) len len, ?_, .own _ _ _ _ _ _ (Nat.le_refl _) hm (by simp at htot; omega) hr, ?_⟩
  · simp [execOp, e1, Instr.sliceAt, run_underlying ht, Instr.sureAddr, Instr.sliceBounds, sizeOf, typeInfo, hi1, Addr.add]
  · cases hk0 with | ptr _ _ _ h => exact .own _ _ _ _ _ h

/-! ### Bytes -/
def bytesD (l : List UInt8) : List D := l.map fun b => U8 b.toBitVec
abbrev rdB (l : List UInt8) : D := .rd l.length (bytesD l)
theorem bytesD_len (l : List UInt8) : (bytesD l).length = l.length := by simp [bytesD]
theorem bytesD_at {l : List UInt8} {i : Nat} (h : i < l.length) : ((bytesD l).drop (i * 1))[0]? = some (U8 l[i].toBitVec) := by simp [bytesD, h]
theorem bytesD_one (l : List UInt8) : ∀ d ∈ bytesD l, oneD d = true := by
  intro d hd
  obtain ⟨b, _, rfl⟩ := List.mem_map.1 hd
  rfl
theorem bytesD_ok (l : List UInt8) (H : Heap) : ∀ d ∈ bytesD l, OkD H d := by
  intro d hd
  obtain ⟨b, _, rfl⟩ := List.mem_map.1 hd
  exact .v _
theorem bytesD_app (l m : List UInt8) : bytesD (l ++ m) = bytesD l ++ bytesD m := by simp [bytesD]
theorem bytesD_cut (l : List UInt8) (lo hi : Nat) : ((bytesD l).drop (lo * 1)).take ((hi - lo) * 1) = bytesD ((l.drop lo).take (hi - lo)) := by simp [bytesD, List.map_take, List.map_drop]
abbrev strB (l : List UInt8) : ByteArray := ⟨l.toArray⟩
theorem foldl_bytes : ∀ (l : List UInt8) (s : ByteArray), (l.map fun b => (b.toNat : Int)).foldl (fun r n => r.push (UInt8.ofNat n.toNat)) s = ⟨s.data ++ l.toArray⟩
  | [], s => by simp
  | b :: l, s => by
    rw [List.map_cons, List.foldl_cons, foldl_bytes l]
    show (⟨(s.data.push (UInt8.ofNat ((b.toNat : Int).toNat))) ++ l.toArray⟩ : ByteArray) = _
    congr 1
    simp
/-- Values that read as bytes are bytes. -/
theorem vals_bytes {K : Mem} {β : Nat → Nat → BT} {m : Bool} {us : List Value} {l : List UInt8} (hl : us.length = (bytesD l).length) (hd : ∀ (j : Nat) u d, us[j]? = some u → (bytesD l)[j]? = some d → DR K β m u d) : us = l.map fun b => Value.int .u8 (b.toNat : Int) := by
  apply List.ext_getElem?
  intro j
  rw [bytesD_len] at hl
  by_cases hj : j < l.length
  · have h1 : us[j]? = some us[j] := List.getElem?_eq_getElem (by omega)
    have h2 := hd j _ (U8 l[j].toBitVec) h1 (by simp [bytesD, hj])
    rw [h1, h2.v_inv]
    simp [hj]
  · rw [List.getElem?_eq_none (by omega), List.getElem?_eq_none (by simp; omega)]
theorem run_str {w : World} {A : Option Addr} {n c : Nat} {l : List UInt8} {s : TypeId} (hs : P.underlying t = some (.slice e)) (he : P.underlying e = some (.int .u8)) (hd : P.underlying s = some .string) (hn : l.length = n)
    (hc : ∀ (j : Nat) b, l[j]? = some b → ∃ ad, A = some ad ∧ w.cell? (ad.add j) = some (.int .u8 (b.toNat : Int))) : (convert t s (.slice A n c)).run P w = .ok (.string (strB l)) w := by
  rw [run_convert_bytes_string w t s e A n c hs he hd]
  cases A with
  | none =>
    have : l = [] := by
      cases l with
      | nil => rfl
      | cons b l => obtain ⟨ad, h, _⟩ := hc 0 b rfl; cases h
    subst this
    rfl
  | some a =>
    rw [run_bytesToString w a n c (l.map fun b => (b.toNat : Int)) (by
      have := run_loadCells_list (P := P) w a (l.map fun b => Value.int .u8 (b.toNat : Int)) (fun j v hv => by
        rw [List.getElem?_map] at hv
        cases hj : l[j]? with
        | none => rw [hj] at hv; cases hv
        | some b =>
          rw [hj] at hv; simp at hv; subst hv
          obtain ⟨ad, h1, h2⟩ := hc j b hj
          cases h1; exact h2)
      rw [List.length_map, hn] at this
      rw [this, List.map_map]; rfl)]
    rw [foldl_bytes]
    simp [strB]
/-- Bytes that stay, as a string. -/
theorem o_str_rd {s : TypeId} {l : List UInt8} (hx : ev env X = rdB l) (hs : P.underlying t = some (.slice e)) (he : P.underlying e = some (.int .u8)) (hd : P.underlying s = some .string) : OpD P C ⟨dst, .convert t s X, ty, pos, after, gu⟩ env H (.v (.string (strB l))) H := by
  refine OpD.same fun K β ac w hw h _ => ⟨_, ?_, .v _ _, .v _⟩
  have h0 := h X (by simp [Op.operands])
  rw [hx] at h0
  obtain ⟨A, c, us, e1, hn, hlen, hc, hd'⟩ := h0.rd_inv
  have hus := vals_bytes hlen hd'
  have := run_str (P := P) (w := w) (A := A) (c := c) (l := l) (n := l.length) hs he hd rfl fun j b hb => by
    obtain ⟨ad, h1, h2⟩ := hc j (.int .u8 (b.toNat : Int)) (by rw [hus, List.getElem?_map, hb]; rfl)
    exact ⟨ad, h1, hw.cell h2⟩
  simp only [execOp, e1, Sem.run_bind, this, Result.andThen_ok, Sem.run_pure]
theorem o_str_own {s : TypeId} {l : List UInt8} {id ver n : Nat} {b : Blk} (hx : ev env X = .own id ver 0 n 1) (hb : H[id]? = some (some b)) (hv : b.ver = ver) (hl : b.cs = bytesD l) (hn : l.length = n) (hs : P.underlying t = some (.slice e)) (he : P.underlying e = some (.int .u8)) (hd : P.underlying s = some .string) :
    OpD P C ⟨dst, .convert t s X, ty, pos, after, gu⟩ env H (.v (.string (strB l))) H := by
  subst hv
  refine OpD.same fun K β ac w hw h _ => ⟨_, ?_, .v _ _, .v _⟩
  have h0 := h X (by simp [Op.operands])
  rw [hx] at h0
  obtain ⟨A, c, e1, hc⟩ : ∃ A c, ac.eval X = .slice A n c ∧ ∀ (j : Nat) x, l[j]? = some x → ∃ ad, A = some ad ∧ w.cell? (ad.add j) = some (.int .u8 (x.toNat : Int)) := by
    rcases h0.own_inv with ⟨c, e1, _, _, _, hr⟩ | ⟨e1, _, h0, hr⟩
    · obtain ⟨us, rest, hh, hlen, _, _, hd'⟩ := hw.real hb hr
      rw [hl] at hlen hd'
      have hus := vals_bytes hlen hd'
      refine ⟨_, c, e1, fun j x hx => ⟨_, rfl, ?_⟩⟩
      rw [add_lit, cell_at hh, Nat.zero_add, List.getElem?_append_left (by rw [hlen, bytesD_len]; exact (List.getElem?_eq_some_iff.1 hx).1), hus, List.getElem?_map, hx]; rfl
    · have h2 := hw.nil hb hr
      rw [hl] at h2
      have : l = [] := by cases l with | nil => rfl | cons _ _ => simp [bytesD] at h2
      subst this
      simp at hn; subst hn
      exact ⟨_, _, e1, by simp⟩
  have := run_str (P := P) (w := w) (A := A) (c := c) (l := l) (n := n) hs he hd hn hc
  simp only [execOp, e1, Sem.run_bind, this, Result.andThen_ok, Sem.run_pure]
end

/-! ### Appends -/
section
variable {P : Program} {w : World}
theorem run_append_nil (base : Nat) (t ty e : TypeId) (i : TypeInfo) (size : Nat) (ht : P.underlying t = some (.slice e)) (hi : P.info? e = some i)
    (v : Value) (n : Nat) (xs : List Value) (hown : w.ownsRow base e size v n xs) (c : Nat) : (Builtin.append_ #[t, t] ty #[v, .slice none 0 c]).run P w = .ok v w := by
  rcases hown.2 with ⟨rfl, rfl⟩ | ⟨g, cap, cur, rfl, _, _, hnc, _⟩
  · simp [Builtin.append_, run_underlying ht, sizeOf, typeInfo, hi, Builtin.lenOf, Builtin.firstCells]
  · simp [Builtin.append_, run_underlying ht, sizeOf, typeInfo, hi, Builtin.lenOf, Builtin.firstCells, hnc, storeCells]
theorem run_append_any (base : Nat) (t ty e : TypeId) (i : TypeInfo) (z : Value) (size bytes : Nat) (ht : P.underlying t = some (.slice e)) (hi : P.info? e = some i) (hz : i.zero = some z)
    (hsize : i.size = size) (hby : i.bytes = bytes) (hzs : z.cells.size = size) (hsz : 0 < size)
    (v : Value) (n : Nat) (xs : List Value) (hown : w.ownsRow base e size v n xs)
    (A : Option Addr) (m c : Nat) (news : List Value) (hr : news.length = m * size) (hcell : ∀ (j : Nat) u, news[j]? = some u → ∃ ad, A = some ad ∧ w.cell? (ad.add j) = some u) (h1 : ∀ u ∈ news, u.oneCell' = true)
    (h63 : n + m ≤ maxLen) (hbytes : (n + m) * bytes ≤ 140737488355328) (hbase : base ≤ w.heap.size) :
    ∃ v' w', (Builtin.append_ #[t, t] ty #[v, .slice A m c]).run P w = .ok v' w' ∧ w'.ownsRow base e size v' (n + m) (xs ++ news) ∧ w.grownBy w' v.ownBlock ∧
      (v'.ownBlock = v.ownBlock ∨ v'.ownBlock = some w.heap.size) := by
  rcases A with _ | ad
  · have hn : news = [] := by
      cases news with
      | nil => rfl
      | cons u l => obtain ⟨ad, h, _⟩ := hcell 0 u rfl; cases h
    subst hn
    have hm : m = 0 := by
      rcases Nat.eq_zero_or_pos m with h0 | h0
      · exact h0
      · have h2 : m * size = 0 := by simpa using hr.symm
        rcases Nat.mul_eq_zero.1 h2 with h | h <;> omega
    subst hm
    exact ⟨v, w, run_append_nil base t ty e i size ht hi v n xs hown c, by simpa using hown, World.grownBy.refl w _, .inl rfl⟩
  · obtain ⟨v', w', hrun, h2, h3, _, h5⟩ := run_append_own_at (P := P) w base t ty e i z size bytes ht hi hz hsize hby hzs hsz v n xs hown ad m c news hr (fun j u hu => by
      obtain ⟨ad', e', h⟩ := hcell j u hu
      cases e'; exact h) h1 h63 hbytes hbase
    exact ⟨v', w', hrun, h2, h3, h5⟩
end
end Go.DL
