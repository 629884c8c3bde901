/-
  A logic of data for the walks: values of three parts, cuts of rows, literals whose parts are pure. Plain lemmas over any program; no condition.
-/
import Derived.Test.YtpacdeiaimfiaaaDlR
set_option linter.unusedSimpArgs false
set_option linter.unusedVariables false
namespace Go.DL
open Go.RowKit

/-- A value: its kind, its number, its text. -/
structure Val where
  k : UInt8
  i : Int
  t : List UInt8
  deriving DecidableEq, Inhabited
def vc (v : Val) : List D := [B8 v.k, I64 v.i, S v.t]
theorem vc_len (v : Val) : (vc v).length = 3 := rfl
abbrev VD (v : Val) : D := .agg (vc v)
abbrev rdV (l : List Val) : D := .rd l.length (l.flatMap vc)
abbrev rdI (l : List Int) : D := .rd l.length (l.map I64)
abbrev rdT (l : List (List UInt8)) : D := .rd l.length (l.map S)
theorem pu_vals (l : List Val) : ∀ c ∈ l.flatMap vc, Pure' c := pu_flatMap (fun _ => pu_vs rfl) l
theorem one_vals (l : List Val) : ∀ c ∈ l.flatMap vc, oneD c = true := one_flatMap (fun _ => by intro c hc; simp [vc] at hc; rcases hc with rfl | rfl | rfl <;> rfl) l
theorem ok_nil {H : Heap} : ∀ c ∈ ([] : List D), OkD H c := by simp
theorem ok_cons {H : Heap} {d : D} {l : List D} (h : OkD H d) (hl : ∀ c ∈ l, OkD H c) : ∀ c ∈ d :: l, OkD H c := fun c hc => by
  rcases List.mem_cons.1 hc with rfl | hc
  · exact h
  · exact hl c hc

theorem zeros_len (zv : Value) (n sz : Nat) : (zeros zv n sz).length = n := by simp [zeros]
theorem Frz1.rowE {id ver n m sz : Nat} {b : Blk} {ds : List D} (hv : b.ver = ver) (hn : n = m) (h : b.cs = ds) : Frz1 id b (.own id ver 0 n sz) (.rd m ds) := by
  subst hv hn h
  exact .own 0 n sz _ (by simp)
theorem getD_snoc (l : List UInt8) (c : UInt8) : (l ++ [c]).getD l.length 0 = c := by simp
theorem ubyte (b : UInt8) : b.toNat ≤ 18446744073709551615 := by have := b.toNat_lt; omega
theorem ow_eq {i a b s : Nat} (h : a = b) : ow i a s = ow i b s := by rw [h]
theorem tb_eq {e : TypeId} {n n' : Nat} {cs cs' : List D} (hn : n = n') (hc : cs = cs') : tb e n cs = tb e n' cs' := by rw [hn, hc]
theorem rd_eq {n n' : Nat} {cs cs' : List D} (hn : n = n') (hc : cs = cs') : D.rd n cs = .rd n' cs' := by rw [hn, hc]

section
variable {P : Program} {C : Ctx} {env : Nat → D} {H H' : Heap} {dst : Option Nat} {ty t t' e : TypeId} {pos : String} {after : Array Edge} {gu : Option (Nat × Bool)} {X Y Z : Operand} {td : TypeDesc}
theorem eqV_of (k k' : UInt8) (i i' : Int) (s s' : List UInt8) : eqDs [B8 k, I64 i, S s] [B8 k', I64 i', S s'] = decide ((⟨k, i, s⟩ : Val) = ⟨k', i', s'⟩) := by
  rw [Bool.eq_iff_iff]
  simp only [eqDs, eq1, strB_list, Bool.and_eq_true, beq_iff_eq, decide_eq_true_eq, Val.mk.injEq, and_true]
  rw [Int.natCast_inj, UInt8.toNat_inj]
theorem o_eqV {k k' : UInt8} {i i' : Int} {s s' : List UInt8} (F : FlatS P t [.int .u8, .int .i64, .string]) (hx : ev env X = .agg [B8 k, I64 i, S s]) (hy : ev env Y = .agg [B8 k', I64 i', S s']) : OpD P C ⟨dst, .binOp .eql t X Y t', ty, pos, after, gu⟩ env H (Bo (decide ((⟨k, i, s⟩ : Val) = ⟨k', i', s'⟩))) H :=
  (o_eqS F hx hy rfl).cast (v_bool (eqV_of ..))
theorem o_neV {k k' : UInt8} {i i' : Int} {s s' : List UInt8} (F : FlatS P t [.int .u8, .int .i64, .string]) (hx : ev env X = .agg [B8 k, I64 i, S s]) (hy : ev env Y = .agg [B8 k', I64 i', S s']) : OpD P C ⟨dst, .binOp .neq t X Y t', ty, pos, after, gu⟩ env H (Bo (!decide ((⟨k, i, s⟩ : Val) = ⟨k', i', s'⟩))) H :=
  (o_neS F hx hy rfl).cast (v_bool (by rw [eqV_of]))
/-- A slice written out, that nobody changes. -/
theorem o_litP {zv : Value} {sz len bytes : Nat} {ps : List (Nat × Operand)} {cs : List D} (ht : P.underlying t = some (.slice e)) (hi : (P.info? e).map (fun i => (i.zero, i.size, i.bytes)) = some (some zv, sz, bytes)) (hz : zv.cells.size = sz) (hlen : Nat.ble (len * sz) 16777216 = true)
    (hp : litOK env sz (len * sz) ps = true) (hcs : ps.foldl (fun c p => spl c (p.1 * sz) (cellsD (ev env p.2))) ((zeros zv (len * sz) sz).map D.v) = cs) (hpure : ∀ d ∈ cs, Pure' d) : OpD P C ⟨dst, .buildSlice t len ps.toArray, ty, pos, after, gu⟩ env H (.rd len cs) H :=
  o_lit_rd ht hi hz (Nat.le_of_ble_eq_true hlen) (litOK.at hp) hcs hpure

/-- A row copied whole over a row of as many places. -/
theorem o_copyA {id ver n m : Nat} {cs' : List D} {b : Blk} (hx : ev env X = .own id ver 0 n 1) (hy : ev env Y = .rd m cs') (ht : P.underlying t = some (.slice e)) (hi : (P.info? e).map (·.size) = some 1) (hb : H[id]? = some (some b)) (hv : b.ver = ver) (hm : cs'.length = m) (hnm : n = m) (hn : b.cs.length = n) (h1 : ∀ d ∈ cs', oneD d = true) :
    OpD P C ⟨dst, .call { callee := .builtin .copy, args := #[X, Y], argTypes := #[t, t'] }, ty, pos, after, gu⟩ env H (I64 (m : Nat)) (H.set id (some { b with cs := cs' })) := by
  subst hnm hm
  have h := o_copy (P := P) (C := C) (dst := dst) (ty := ty) (pos := pos) (after := after) (gu := gu) (t' := t') cs'.length hx hy ht hi hb hv rfl (Nat.min_self _) (by omega) h1
  rwa [List.take_of_length_le (Nat.le_refl _), spl_all _ _ hn.symm] at h

/-- The place of an element that is there where the operation is done: told for all numbers. -/
theorem o_ixn_LZ {α : Type} (z : α) {l : List α} {f : α → List D} {sz : Nat} {k : IntKind} {i : Int} (n : Nat) (hf : ∀ a, (f a).length = sz) (hp : Nat.blt 0 sz = true) (hx : ev env X = .rd l.length (l.flatMap f)) (hy : ev env Y = .v (.int k i)) (ht : P.underlying t = some (.slice e)) (hi : (P.info? e).map (·.size) = some sz) (hn : i = n) (h : n < l.length) :
    OpD P C ⟨dst, .indexAddr t X Y, ty, pos, after, gu⟩ env H (.adr (f (l.getD n z) ++ (l.drop (n + 1)).flatMap f)) H :=
  (o_ixn_L n hf hp hx hy ht hi hn h).cast (by simp [List.getD, h])
theorem o_ixn_MZ {α : Type} (z : α) {l : List α} {g : α → D} {k : IntKind} {i : Int} (n : Nat) (hx : ev env X = .rd l.length (l.map g)) (hy : ev env Y = .v (.int k i)) (ht : P.underlying t = some (.slice e)) (hi : (P.info? e).map (·.size) = some 1) (hn : i = n) (h : n < l.length) :
    OpD P C ⟨dst, .indexAddr t X Y, ty, pos, after, gu⟩ env H (.adr (g (l.getD n z) :: (l.drop (n + 1)).map g)) H :=
  (o_ixn_M n hx hy ht hi hn h).cast (by simp [List.getD, h])
theorem o_ixSZ {l : List UInt8} {k : IntKind} {i : Int} (n : Nat) (hx : ev env X = S l) (hy : ev env Y = .v (.int k i)) (ht : P.underlying t = some .string) (hn : i = n) (h : n < l.length) : OpD P C ⟨dst, .index t X Y, ty, pos, after, gu⟩ env H (B8 (l.getD n 0)) H :=
  (o_ixS n hx hy ht hn h).cast (by simp [List.getD, h])

/-! ### Cuts of rows that stay -/
theorem o_takeM {α : Type} {l : List α} {g : α → D} {k : IntKind} {i : Int} (n : Nat) {y : Operand} (hx : ev env X = .rd l.length (l.map g)) (hy : ev env y = .v (.int k i)) (ht : P.underlying t = some (.slice e)) (hi : (P.info? e).map (·.size) = some 1) (hn : i = n) (h : n ≤ l.length) :
    OpD P C ⟨dst, .slice t X none (some y) none, ty, pos, after, gu⟩ env H (.rd (l.take n).length ((l.take n).map g)) H := by
  subst hn
  have := o_cut_rd (P := P) (C := C) (H := H) (dst := dst) (ty := ty) (pos := pos) (after := after) (gu := gu) (lo := 0) (hi := n) (cs' := (l.take n).map g) (yl := none) (yh := some y) hx rfl ⟨k, hy⟩ ht hi (Nat.zero_le _) h (by simp [List.map_take])
  exact this.cast (by congr 1; simp only [List.length_take, List.length_drop]; try omega)
theorem o_takeM' {α : Type} {l l' : List α} {g : α → D} {k : IntKind} {i : Int} (n : Nat) (he : l.take n = l') {y : Operand} (hx : ev env X = .rd l.length (l.map g)) (hy : ev env y = .v (.int k i)) (ht : P.underlying t = some (.slice e)) (hi : (P.info? e).map (·.size) = some 1) (hn : i = n) (h : n ≤ l.length) :
    OpD P C ⟨dst, .slice t X none (some y) none, ty, pos, after, gu⟩ env H (.rd l'.length (l'.map g)) H := by
  subst he; exact o_takeM n hx hy ht hi hn h
theorem o_dropM {α : Type} {l : List α} {g : α → D} {k : IntKind} {i : Int} (n : Nat) {y : Operand} (hx : ev env X = .rd l.length (l.map g)) (hy : ev env y = .v (.int k i)) (ht : P.underlying t = some (.slice e)) (hi : (P.info? e).map (·.size) = some 1) (hn : i = n) (h : n ≤ l.length) :
    OpD P C ⟨dst, .slice t X (some y) none none, ty, pos, after, gu⟩ env H (.rd (l.drop n).length ((l.drop n).map g)) H := by
  subst hn
  have := o_cut_rd (P := P) (C := C) (H := H) (dst := dst) (ty := ty) (pos := pos) (after := after) (gu := gu) (lo := n) (hi := l.length) (cs' := (l.drop n).map g) (yl := some y) (yh := none) hx ⟨k, hy⟩ rfl ht hi h (Nat.le_refl _) (by simp [List.map_drop, List.take_of_length_le])
  exact this.cast (by congr 1; simp only [List.length_take, List.length_drop]; try omega)
theorem o_partM {α : Type} {l : List α} {g : α → D} {k k' : IntKind} {i i' : Int} (n m : Nat) {y z : Operand} (hx : ev env X = .rd l.length (l.map g)) (hy : ev env y = .v (.int k i)) (hz : ev env z = .v (.int k' i')) (ht : P.underlying t = some (.slice e)) (hi : (P.info? e).map (·.size) = some 1) (hn : i = n) (hm : i' = m) (h1 : n ≤ m) (h : m ≤ l.length) :
    OpD P C ⟨dst, .slice t X (some y) (some z) none, ty, pos, after, gu⟩ env H (.rd ((l.drop n).take (m - n)).length (((l.drop n).take (m - n)).map g)) H := by
  subst hn hm
  have := o_cut_rd (P := P) (C := C) (H := H) (dst := dst) (ty := ty) (pos := pos) (after := after) (gu := gu) (lo := n) (hi := m) (cs' := ((l.drop n).take (m - n)).map g) (yl := some y) (yh := some z) hx ⟨k, hy⟩ ⟨k', hz⟩ ht hi h1 h (by simp [List.map_drop, List.map_take])
  exact this.cast (by congr 1; simp only [List.length_take, List.length_drop]; try omega)
theorem flatMap_take {α : Type} {f : α → List D} {sz : Nat} (hf : ∀ a, (f a).length = sz) : ∀ (l : List α) (n : Nat), (l.flatMap f).take (n * sz) = (l.take n).flatMap f
  | [], n => by simp
  | a :: l, 0 => by simp
  | a :: l, n + 1 => by
    rw [List.flatMap_cons, List.take_succ_cons, List.flatMap_cons, Nat.succ_mul, Nat.add_comm, List.take_append, hf a]
    rw [List.take_of_length_le (by rw [hf]; omega), Nat.add_sub_cancel_left, flatMap_take hf l n]
theorem o_takeL {α : Type} {l : List α} {f : α → List D} {sz : Nat} {k : IntKind} {i : Int} (n : Nat) (hf : ∀ a, (f a).length = sz) {y : Operand} (hx : ev env X = .rd l.length (l.flatMap f)) (hy : ev env y = .v (.int k i)) (ht : P.underlying t = some (.slice e)) (hi : (P.info? e).map (·.size) = some sz) (hn : i = n) (h : n ≤ l.length) :
    OpD P C ⟨dst, .slice t X none (some y) none, ty, pos, after, gu⟩ env H (.rd (l.take n).length ((l.take n).flatMap f)) H := by
  subst hn
  have := o_cut_rd (P := P) (C := C) (H := H) (dst := dst) (ty := ty) (pos := pos) (after := after) (gu := gu) (lo := 0) (hi := n) (cs' := (l.take n).flatMap f) (yl := none) (yh := some y) hx rfl ⟨k, hy⟩ ht hi (Nat.zero_le _) h (by rw [Nat.zero_mul, List.drop_zero, Nat.sub_zero, flatMap_take hf])
  exact this.cast (by congr 1; simp only [List.length_take, List.length_drop]; try omega)
theorem o_dropL {α : Type} {l : List α} {f : α → List D} {sz : Nat} {k : IntKind} {i : Int} (n : Nat) (hf : ∀ a, (f a).length = sz) {y : Operand} (hx : ev env X = .rd l.length (l.flatMap f)) (hy : ev env y = .v (.int k i)) (ht : P.underlying t = some (.slice e)) (hi : (P.info? e).map (·.size) = some sz) (hn : i = n) (h : n ≤ l.length) :
    OpD P C ⟨dst, .slice t X (some y) none none, ty, pos, after, gu⟩ env H (.rd (l.drop n).length ((l.drop n).flatMap f)) H := by
  subst hn
  have := o_cut_rd (P := P) (C := C) (H := H) (dst := dst) (ty := ty) (pos := pos) (after := after) (gu := gu) (lo := n) (hi := l.length) (cs' := (l.drop n).flatMap f) (yl := some y) (yh := none) hx ⟨k, hy⟩ rfl ht hi h (Nat.le_refl _) (by rw [flatMap_drop hf, List.take_of_length_le (by rw [flatMap_len hf, List.length_drop]; exact Nat.le_refl _)])
  exact this.cast (by congr 1; simp only [List.length_take, List.length_drop]; try omega)
theorem o_partL {α : Type} {l : List α} {f : α → List D} {sz : Nat} {k k' : IntKind} {i i' : Int} (n m : Nat) (hf : ∀ a, (f a).length = sz) {y z : Operand} (hx : ev env X = .rd l.length (l.flatMap f)) (hy : ev env y = .v (.int k i)) (hz : ev env z = .v (.int k' i')) (ht : P.underlying t = some (.slice e)) (hi : (P.info? e).map (·.size) = some sz) (hn : i = n) (hm : i' = m) (h1 : n ≤ m) (h : m ≤ l.length) :
    OpD P C ⟨dst, .slice t X (some y) (some z) none, ty, pos, after, gu⟩ env H (.rd ((l.drop n).take (m - n)).length (((l.drop n).take (m - n)).flatMap f)) H := by
  subst hn hm
  have := o_cut_rd (P := P) (C := C) (H := H) (dst := dst) (ty := ty) (pos := pos) (after := after) (gu := gu) (lo := n) (hi := m) (cs' := ((l.drop n).take (m - n)).flatMap f) (yl := some y) (yh := some z) hx ⟨k, hy⟩ ⟨k', hz⟩ ht hi h1 h (by rw [flatMap_drop hf, flatMap_take hf])
  exact this.cast (by congr 1; simp only [List.length_take, List.length_drop]; try omega)

/-! ### Parts of structs; interfaces; negation -/
theorem o_field {cs : List D} {n : Nat} {fs : Array Field} {fl : Field} {d : D} (hx : ev env X = .agg cs) (ht : P.underlying t = some (.struct fs)) (hf : fs[n]? = some fl) (hu : P.underlying fl.type = some td) (hfl : flat td = true) (hd : cs[fl.offset]? = some d) : OpD P C ⟨dst, .field t X n, ty, pos, after, gu⟩ env H d H := by
  refine OpD.same fun K β a w _ h hk => ?_
  have h0 := h X (by simp [Op.operands])
  have hk0 := hk X (by simp [Op.operands])
  rw [hx] at h0 hk0
  obtain ⟨us, e1, hl, hds⟩ := h0.agg_inv
  have hlt : fl.offset < us.length := by rw [hl]; exact (List.getElem?_eq_some_iff.1 hd).1
  refine ⟨us[fl.offset], ?_, hds _ _ d (List.getElem?_eq_getElem hlt) hd, ?_⟩
  · have := run_part (P := P) (w := w) (cs := us.toArray) (off := fl.offset) (v := us[fl.offset]) hu hfl (by simp [hlt])
    simp [execOp, e1, Instr.field, asAgg, run_underlying ht, hf, this]
  · cases hk0 with | agg _ hk0 => exact hk0 d (List.mem_of_getElem? hd)
theorem o_iface {d : D} (hx : ev env X = d) (ht : P.underlying t = some td) (hn : (match td with | .interface _ => false | _ => true) = true) : OpD P C ⟨dst, .makeInterface t X, ty, pos, after, gu⟩ env H (.iface t d) H := by
  subst hx
  refine OpD.same fun K β a w _ h hk => ⟨.iface t (a.eval X), ?_, .iface _ t _ _ (h X (by simp [Op.operands])), .iface _ _ (hk X (by simp [Op.operands]))⟩
  cases td <;> first
    | (simp at hn; done)
    | simp [execOp, Instr.makeInterface, run_underlying ht]
end
end Go.DL
