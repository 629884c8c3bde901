/-
  A logic of data for the walks: an evaluator of code on exact data: operations that change no block. Plain lemmas over any program; no condition.
-/
import Derived.Test.YtbdibcpenihpdaaDlY
set_option linter.unusedSimpArgs false
set_option linter.unusedVariables false
namespace Go.DL
open Go.RowKit

section
variable {P : Program} {X : Type}
noncomputable def evE (env : Tr D) (x : Operand) : D := ev (absE env) x
/-- Something is made, no block is changed, and it goes on so. -/
def SndP (P : Program) (o : Oper) (env : Tr D) (H : EH) (k : D → Option X) (r : X) : Prop := ∃ d, (∀ C, OpD P C o (absE env) H.abs d H.abs) ∧ k d = some r
noncomputable def evPure (P : Program) (env : Tr D) (o : Oper) (k : D → Option X) : Option X :=
  bif (o.op.operands.toList.all fun x => isV (evE env x)) && noSel o.op then (match peval P (execOp (vals (absE env)) o) with | some (.value r) => k (.v r) | _ => none) else none
theorem evPure_snd {env : Tr D} {H : EH} {o : Oper} {k : D → Option X} {r : X} (h : evPure P env o k = some r) : SndP P o env H k r := by
  unfold evPure at h
  obtain ⟨h1, h2⟩ := bif_some h
  rw [Bool.and_eq_true] at h1
  split at h2
  · rename_i v hv; exact ⟨.v v, fun C => o_pureG v h1.1 h1.2 hv, h2⟩
  · cases h2
section
variable (T : Tab P) (env : Tr D) (H : EH)
noncomputable def evPick (c a b : Operand) (k : D → Option X) : Option X := match evE env c with
  | .v (.bool t) => k (bif t then evE env a else evE env b)
  | _ => none
noncomputable def evLoad (t : TypeId) (x : Operand) (k : D → Option X) : Option X := match T.tyAt t with
  | none => none
  | some e => match evE env x with
    | .adr cs => bif flat e.td then (match cs[0]? with | some d => k d | none => none) else (bif Nat.ble e.sz cs.length then k (.agg (cs.take e.sz)) else none)
    | .ptr id ver off => match H.find id with
      | none => none
      | some b => bif Nat.beq b.ver ver then (bif flat e.td then (bif Nat.blt off b.len then k (b.at off) else none) else (bif Nat.ble (off + e.sz) b.len then k (.agg (b.cells off e.sz)) else none)) else none
    | _ => none
noncomputable def evBin (o : Oper) (op : BinOp) (t : TypeId) (x y : Operand) (k : D → Option X) : Option X := match evE env x with
  | .agg xs => (match evE env y with
    | .agg ys => (match T.fsAt t with
      | some e => bif flatOK e.tds xs ys then (match op with | .eql => k (.v (.bool (eqDs xs ys))) | .neq => k (.v (.bool !(eqDs xs ys))) | _ => none) else none
      | none => none)
    | _ => none)
  | _ => evPure P env o k
def byteOf : D → Option UInt8
  | .v (.int .u8 (.ofNat m)) => bif Nat.blt m 256 then some (UInt8.ofNat m) else none
  | _ => none
def bytesOf : List D → Option (List UInt8)
  | [] => some []
  | d :: ds => match byteOf d with
    | none => none
    | some b => match bytesOf ds with
      | none => none
      | some l => some (b :: l)
noncomputable def elemAt (t : TypeId) : Option (TE P × TE P) := match T.tyAt t with
  | some e => (match e.td with
    | .slice el => (match T.tyAt el with | some e2 => some (e, e2) | none => none)
    | _ => none)
  | none => none
def isU8 : TypeDesc → Bool
  | .int .u8 => true
  | _ => false
def isStr : TypeDesc → Bool
  | .string => true
  | _ => false
noncomputable def evConv (o : Oper) (s t : TypeId) (x : Operand) (k : D → Option X) : Option X := match evE env x with
  | .v (.int _ n) => (match T.tyAt s with
    | some _ => (match T.tyAt t with
      | some et => (match et.td with | .int k' => k (.v (.int k' (k'.wrap n))) | _ => evPure P env o k)
      | none => none)
    | none => none)
  | .v (.string z) => (match T.tyAt s with
    | some es => bif isStr es.td then (match elemAt T t with
      | some (_, e2) => bif isU8 e2.td then k (rdB z.data.toList) else none
      | none => evPure P env o k) else none
    | none => none)
  | .rd n cs => (match elemAt T s with
    | some (_, e2) => (match T.tyAt t with
      | some et => bif isU8 e2.td && isStr et.td then (match bytesOf cs with | some l => bif Nat.beq l.length n then k (S l) else none | none => none) else none
      | none => none)
    | none => none)
  | .own id ver off n sz => (match H.find id with
    | some b => bif Nat.beq b.ver ver && Nat.beq sz 1 && Nat.ble (off + n) b.len then (match elemAt T s with
      | some (_, e2) => (match T.tyAt t with
        | some et => bif isU8 e2.td && isStr et.td then (match bytesOf (b.cells off n) with | some l => k (S l) | none => none) else none
        | none => none)
      | none => none) else none
    | none => none)
  | .v _ => evPure P env o k
  | _ => none
def notIf : TypeDesc → Bool
  | .interface _ => false
  | _ => true
noncomputable def evIface (t : TypeId) (x : Operand) (k : D → Option X) : Option X := match T.tyAt t with
  | some e => bif notIf e.td then k (.iface t (evE env x)) else none
  | none => none
noncomputable def evFunc (fn : Fn) (first cap : Array Operand) (k : D → Option X) : Option X := match fn with
  | .func f => bif first.toList.isEmpty then k (.fn (.func f) (cap.toList.map (evE env))) else none
  | _ => none
noncomputable def natAt (x : Operand) : Option Nat := match evE env x with
  | .v (.int _ (.ofNat m)) => some m
  | _ => none
noncomputable def bndAt (dflt : Nat) (x : Option Operand) : Option Nat := match x with
  | none => some dflt
  | some y => natAt env y
noncomputable def evCut (o : Oper) (t : TypeId) (x : Operand) (yl yh ym : Option Operand) (k : D → Option X) : Option X := match evE env x with
  | .v _ => evPure P env o k
  | dx => (match ym with
    | some _ => none
    | none => (match elemAt T t with
      | none => none
      | some (_, e2) => (match bndAt env 0 yl with
        | none => none
        | some lo => (match dx with
          | .rd n cs => (match bndAt env n yh with
            | none => none
            | some hi => bif Nat.ble lo hi && Nat.ble hi n then k (.rd (hi - lo) ((cs.drop (lo * e2.sz)).take ((hi - lo) * e2.sz))) else none)
          | .own id ver off n sz => (match bndAt env n yh with
            | none => none
            | some hi => bif Nat.beq sz e2.sz && Nat.ble lo hi && Nat.ble hi n then (bif Nat.beq lo 0 || Nat.blt lo hi then k (.own id ver (off + lo * sz) (hi - lo) sz) else k (.rd 0 [])) else none)
          | _ => none))))
noncomputable def evFA (t : TypeId) (x : Operand) (n : Nat) (k : D → Option X) : Option X := match T.tyAt t with
  | none => none
  | some e => (match e.td with
    | .struct fs => (match fs[n]? with
      | none => none
      | some fl => (match T.tyAt fl.type with
        | none => none
        | some e2 => bif Nat.beq e2.sz 0 then none else (match evE env x with
          | .ptr id ver off => k (.ptr id ver (off + fl.offset))
          | .adr cs => k (.adr (cs.drop fl.offset))
          | _ => none)))
    | _ => none)
noncomputable def evField (t : TypeId) (x : Operand) (n : Nat) (k : D → Option X) : Option X := match T.tyAt t with
  | none => none
  | some e => (match e.td with
    | .struct fs => (match fs[n]? with
      | none => none
      | some fl => (match T.tyAt fl.type with
        | none => none
        | some e2 => bif flat e2.td then (match evE env x with
          | .agg cs => (match cs[fl.offset]? with | some d => k d | none => none)
          | _ => none) else none))
    | _ => none)
noncomputable def evIA (t : TypeId) (x y : Operand) (k : D → Option X) : Option X := match natAt env y with
  | none => none
  | some i => (match T.tyAt t with
    | none => none
    | some e => (match e.td with
      | .slice el => (match T.tyAt el with
        | none => none
        | some e2 => (match evE env x with
          | .rd n cs => bif Nat.blt i n && Nat.blt (i * e2.sz) cs.length then k (.adr (cs.drop (i * e2.sz))) else none
          | .own id ver off n sz => bif Nat.blt i n then k (.ptr id ver (off + i * e2.sz)) else none
          | _ => none))
      | .array len el => (match T.tyAt el with
        | none => none
        | some e2 => (match evE env x with
          | .ptr id ver off => bif Nat.blt i len then k (.ptr id ver (off + i * e2.sz)) else none
          | _ => none))
      | _ => none))
/-- A zero value, cell by cell. -/
def zvD : Value → D
  | .agg cs => .agg (cs.toList.map D.v)
  | z => .v z
noncomputable def evLook (t : TypeId) (x y : Operand) (ok : Bool) (k : D → Option X) : Option X := match T.tyAt t with
  | none => none
  | some e => (match e.td with
    | .map kt et => (match T.tyAt kt with
      | none => none
      | some ek => (match T.tyAt et with
        | none => none
        | some ee => bif flatKey ek.td then (match evE env y with
          | .v key => (match evE env x with
            | .mp ks cs => (match kFind ek.td key ks 0 with
              | some (some j) => (match cs[j]? with | some d => k (bif ok then .tup [d, .v (.bool true)] else d) | none => none)
              | some none => k (bif ok then .tup [zvD ee.zv, .v (.bool false)] else zvD ee.zv)
              | none => none)
            | .omp id ver => (match H.find id with
              | none => none
              | some b => bif Nat.beq b.ver ver then (match kFind ek.td key (keysD (b.cells 0 b.len)) 0 with
                | some (some j) => bif Nat.blt j b.len then (match b.at j with | .tup [.v _, d] => k (bif ok then .tup [d, .v (.bool true)] else d) | _ => none) else none
                | some none => k (bif ok then .tup [zvD ee.zv, .v (.bool false)] else zvD ee.zv)
                | none => none) else none)
            | _ => none)
          | _ => none) else none))
    | _ => none)
noncomputable def evExt (o : Oper) (x : Operand) (i : Nat) (k : D → Option X) : Option X := match evE env x with
  | .tup ds => (match ds[i]? with | some d => k d | none => none)
  | .v _ => evPure P env o k
  | _ => none
noncomputable def evBuild (t : TypeId) (ps : Array (Nat × Operand)) (k : D → Option X) : Option X := match T.tyAt t with
  | none => none
  | some e => (match e.td with
    | .struct _ => (match T.plAt t with
      | none => none
      | some p => (match dfill (absE env) (p.pl.toArray[·]?) (e.zv.cells.toList.map D.v) ps.toList with
        | some cs => k (.agg cs)
        | none => none))
    | _ => none)
noncomputable def evLen (o : Oper) (c : Call) (k : D → Option X) : Option X := match c.callee, c.args.toList, c.argTypes.toList with
  | .builtin .len, [x], [t] => (match evE env x with
    | .rd n _ => (match elemAt T t with | some _ => k (I64 n) | none => none)
    | .own _ _ _ n _ => (match elemAt T t with | some _ => k (I64 n) | none => none)
    | .v _ => evPure P env o k
    | _ => none)
  | _, _, _ => evPure P env o k
end
end

/-! ### They are so -/
section
variable {P : Program} {X : Type} {T : Tab P} {env : Tr D} {H : EH} {k : D → Option X} {r : X} {dst : Option Nat} {ty : TypeId} {pos : String} {after : Array Edge} {gu : Option (Nat × Bool)}
theorem evPick_snd {c a b : Operand} (h : evPick env c a b k = some r) : SndP P ⟨dst, .pick c a b, ty, pos, after, gu⟩ env H k r := by
  unfold evPick at h
  split at h
  · rename_i t ht; exact ⟨_, fun C => o_pick t _ _ ht rfl rfl, h⟩
  · cases h
theorem evLoad_snd {t : TypeId} {x : Operand} (h : evLoad T env H t x k = some r) : SndP P ⟨dst, .load t x, ty, pos, after, gu⟩ env H k r := by
  unfold evLoad at h
  split at h
  · cases h
  · rename_i e he
    have et := Tab.tyAt_eq he
    subst et
    split at h
    · rename_i cs hx
      cases hf : flat e.td with
      | true =>
        rw [hf] at h
        simp only [cond_true] at h
        split at h
        · rename_i d hd; exact ⟨d, fun C => o_load_adr hx e.hu hf hd, h⟩
        · cases h
      | false =>
        rw [hf] at h
        obtain ⟨h1, h2⟩ := bif_some (by simpa using h)
        exact ⟨_, fun C => o_load_adr_agg hx e.hu hf e.size (Nat.le_of_ble_eq_true h1), h2⟩
    · rename_i id ver off hx
      split at h
      · cases h
      · rename_i b hb
        have h1 := (bif_some h).1; replace h := (bif_some h).2
        have hv := Nat.eq_of_beq_eq_true h1
        obtain ⟨hlt, hB⟩ := EH.find_abs hb
        cases hf : flat e.td with
        | true =>
          rw [hf] at h
          obtain ⟨h1, h2⟩ := bif_some (by simpa using h)
          exact ⟨_, fun C => o_load_ptr hx e.hu hf hB hv (EB.abs_at (by simpa [Nat.blt_eq] using h1)), h2⟩
        | false =>
          rw [hf] at h
          obtain ⟨h1, h2⟩ := bif_some (by simpa using h)
          have h1 := Nat.le_of_ble_eq_true h1
          refine ⟨_, fun C => ?_, h2⟩
          rw [← EB.abs_part h1]
          exact o_load_ptr_agg hx e.hu hf e.size hB hv (by rw [EB.abs_len]; exact h1)
    · cases h
theorem evBin_snd {op : BinOp} {t t' : TypeId} {x y : Operand} (h : evBin T env ⟨dst, .binOp op t x y t', ty, pos, after, gu⟩ op t x y k = some r) : SndP P ⟨dst, .binOp op t x y t', ty, pos, after, gu⟩ env H k r := by
  unfold evBin at h
  split at h
  · rename_i xs hx
    split at h
    · rename_i ys hy
      split at h
      · rename_i e he
        have et := Tab.fsAt_eq he
        subst et
        obtain ⟨h1, h2⟩ := bif_some h
        split at h2
        · exact ⟨_, fun C => o_eqS e.h hx hy h1, h2⟩
        · exact ⟨_, fun C => o_neS e.h hx hy h1, h2⟩
        · cases h2
      · cases h
    · cases h
  · exact evPure_snd h
theorem byteOf_eq {d : D} {b : UInt8} (h : byteOf d = some b) : d = U8 b.toBitVec := by
  unfold byteOf at h
  split at h
  · rename_i m
    obtain ⟨h1, h2⟩ := bif_some h
    cases h2
    have hm : m < 256 := by simpa [Nat.blt_eq] using h1
    show D.v (.int .u8 (Int.ofNat m)) = .v (.int .u8 (((UInt8.ofNat m).toBitVec.toNat : Nat) : Int))
    have : (UInt8.ofNat m).toBitVec.toNat = m := by
      show (UInt8.ofNat m).toNat = m
      rw [UInt8.toNat_ofNat']; exact Nat.mod_eq_of_lt hm
    rw [this]; rfl
  · cases h
theorem bytesOf_eq : ∀ {cs : List D} {l : List UInt8}, bytesOf cs = some l → cs = bytesD l
  | [], l, h => by cases h; rfl
  | d :: ds, l, h => by
    rw [bytesOf] at h
    split at h
    · cases h
    · rename_i b hb
      split at h
      · cases h
      · rename_i l' hl
        cases h
        rw [byteOf_eq hb, bytesOf_eq hl]; rfl
theorem elemAt_eq {t : TypeId} {e e2 : TE P} (h : elemAt T t = some (e, e2)) : P.underlying t = some (.slice e2.t) := by
  unfold elemAt at h
  split at h
  · rename_i e' he
    split at h
    · rename_i el htd
      split at h
      · rename_i e2' he2
        cases h
        have h1 := Tab.tyAt_eq he
        have h2 := Tab.tyAt_eq he2
        subst h1 h2
        rw [e.hu, htd]
      · cases h
    · cases h
  · cases h
theorem isU8_eq {td : TypeDesc} (h : isU8 td = true) : td = .int .u8 := by unfold isU8 at h; split at h; rfl; cases h
theorem isStr_eq {td : TypeDesc} (h : isStr td = true) : td = .string := by unfold isStr at h; split at h; rfl; cases h
theorem evConv_snd {s t : TypeId} {x : Operand} (h : evConv T env H ⟨dst, .convert s t x, ty, pos, after, gu⟩ s t x k = some r) : SndP P ⟨dst, .convert s t x, ty, pos, after, gu⟩ env H k r := by
  unfold evConv at h
  split at h
  · rename_i kd n hx
    split at h
    · rename_i es hs
      split at h
      · rename_i et ht
        split at h
        · rename_i k' hk
          have e1 := Tab.tyAt_eq hs
          have e2 := Tab.tyAt_eq ht
          subst e1 e2
          exact ⟨_, fun C => o_int hx es.hu (hk ▸ et.hu), h⟩
        · exact evPure_snd h
      · cases h
    · cases h
  · rename_i z hx
    split at h
    · rename_i es hs
      have e1 := Tab.tyAt_eq hs
      subst e1
      have h1 := (bif_some h).1; replace h := (bif_some h).2
      split at h
      · rename_i e' e2 he
        have h2 := (bif_some h).1; replace h := (bif_some h).2
        refine ⟨_, fun C => ?_, h⟩
        refine o_bytes (l := z.data.toList) (by show ev _ x = .v (.string ⟨z.data.toList.toArray⟩); rw [Array.toArray_toList]; exact hx) (isStr_eq h1 ▸ es.hu) (elemAt_eq he) (isU8_eq h2 ▸ e2.hu)
      · exact evPure_snd h
    · cases h
  · rename_i n cs hx
    split at h
    · rename_i e' e2 he
      split at h
      · rename_i et ht
        have e1 := Tab.tyAt_eq ht
        subst e1
        have h1 := (bif_some h).1; replace h := (bif_some h).2
        rw [Bool.and_eq_true] at h1
        split at h
        · rename_i l hl
          have h2 := (bif_some h).1; replace h := (bif_some h).2
          have h2 := Nat.eq_of_beq_eq_true h2
          have h3 := bytesOf_eq hl
          subst h2 h3
          exact ⟨_, fun C => o_str_rd hx (elemAt_eq he) (isU8_eq h1.1 ▸ e2.hu) (isStr_eq h1.2 ▸ et.hu), h⟩
        · cases h
      · cases h
    · cases h
  · rename_i id ver off n sz hx
    split at h
    · rename_i b hb
      have h0 := (bif_some h).1; replace h := (bif_some h).2
      rw [Bool.and_eq_true, Bool.and_eq_true] at h0
      obtain ⟨⟨g1, g2⟩, g3⟩ := h0
      have g1 := Nat.eq_of_beq_eq_true g1
      have g2 := Nat.eq_of_beq_eq_true g2
      have g3 := Nat.le_of_ble_eq_true g3
      subst g2
      obtain ⟨hlt, hB⟩ := EH.find_abs hb
      split at h
      · rename_i e' e2 he
        split at h
        · rename_i et ht
          have e1 := Tab.tyAt_eq ht
          subst e1
          have h1 := (bif_some h).1; replace h := (bif_some h).2
          rw [Bool.and_eq_true] at h1
          split at h
          · rename_i l hl
            have h3 := bytesOf_eq hl
            have h4 : l.length = n := by rw [← bytesD_len, ← h3, EB.cells_len]
            exact ⟨_, fun C => o_str_ownO hx hB g1 (by rw [EB.abs_part g3, h3]) h4 (elemAt_eq he) (isU8_eq h1.1 ▸ e2.hu) (isStr_eq h1.2 ▸ et.hu), h⟩
          · cases h
        · cases h
      · cases h
    · cases h
  · exact evPure_snd h
  · cases h
theorem iface_ok {C : Ctx} {E : Nat → D} {Hh : Heap} {t : TypeId} {td : TypeDesc} {x : Operand} {d : D} (hx : ev E x = d) (ht : P.underlying t = some td) (h : notIf td = true) : OpD P C ⟨dst, .makeInterface t x, ty, pos, after, gu⟩ E Hh (.iface t d) Hh := by
  cases td <;> first
    | (cases h; done)
    | exact o_iface hx ht rfl
theorem evIface_snd {t : TypeId} {x : Operand} (h : evIface T env t x k = some r) : SndP P ⟨dst, .makeInterface t x, ty, pos, after, gu⟩ env H k r := by
  unfold evIface at h
  split at h
  · rename_i e he
    have e1 := Tab.tyAt_eq he
    subst e1
    have h1 := (bif_some h).1; replace h := (bif_some h).2
    exact ⟨_, fun C => iface_ok rfl e.hu h1, h⟩
  · cases h
theorem evFunc_snd {fn : Fn} {first cap : Array Operand} (h : evFunc env fn first cap k = some r) : SndP P ⟨dst, .makeFunc fn first cap, ty, pos, after, gu⟩ env H k r := by
  unfold evFunc at h
  split at h
  · rename_i f
    have h1 := (bif_some h).1; replace h := (bif_some h).2
    have hf : first = #[] := by
      cases first with
      | mk l => cases l with
        | nil => rfl
        | cons a l => cases h1
    subst hf
    have e := fun C => o_makeFunc (P := P) (C := C) (env := absE env) (H := H.abs) (dst := dst) (ty := ty) (pos := pos) (after := after) (gu := gu) (f := f) (caps := cap.toList)
    have hcap : cap.toList.toArray = cap := Array.toArray_toList
    rw [hcap] at e
    exact ⟨_, e, h⟩
  · cases h
theorem natAt_eq {x : Operand} {m : Nat} (h : natAt env x = some m) : ∃ kd, ev (absE env) x = .v (.int kd (m : Int)) := by
  unfold natAt at h
  split at h
  · rename_i kd m' hx; cases h; exact ⟨kd, hx⟩
  · cases h
theorem bndL {y : Option Operand} {lo : Nat} (h : bndAt env 0 y = some lo) : bnd (absE env) lo y := by
  unfold bndAt at h
  cases y with
  | none => cases h; rfl
  | some y => exact natAt_eq h
theorem bndR {y : Option Operand} {n hi : Nat} (h : bndAt env n y = some hi) : bndH (absE env) n hi y := by
  unfold bndAt at h
  cases y with
  | none => cases h; rfl
  | some y => exact natAt_eq h
theorem evCut_snd {t : TypeId} {x : Operand} {yl yh ym : Option Operand} (h : evCut T env ⟨dst, .slice t x yl yh ym, ty, pos, after, gu⟩ t x yl yh ym k = some r) : SndP P ⟨dst, .slice t x yl yh ym, ty, pos, after, gu⟩ env H k r := by
  unfold evCut at h
  split at h
  · exact evPure_snd h
  · rename_i dx hnv
    split at h
    · cases h
    · split at h
      · cases h
      · rename_i e' e2 he
        split at h
        · cases h
        · rename_i lo hlo
          split at h
          · rename_i n cs hx
            split at h
            · cases h
            · rename_i hi hhi
              have h1 := (bif_some h).1; replace h := (bif_some h).2
              rw [Bool.and_eq_true] at h1
              exact ⟨_, fun C => o_cut_rd hx (bndL hlo) (bndR hhi) (elemAt_eq he) e2.size (Nat.le_of_ble_eq_true h1.1) (Nat.le_of_ble_eq_true h1.2) rfl, h⟩
          · rename_i id ver off n sz hx
            split at h
            · cases h
            · rename_i hi hhi
              have h1 := (bif_some h).1; replace h := (bif_some h).2
              rw [Bool.and_eq_true, Bool.and_eq_true] at h1
              obtain ⟨⟨g1, g2⟩, g3⟩ := h1
              have g1 := Nat.eq_of_beq_eq_true g1
              have g2 := Nat.le_of_ble_eq_true g2
              have g3 := Nat.le_of_ble_eq_true g3
              subst g1
              cases hc : (Nat.beq lo 0 || Nat.blt lo hi) with
              | true =>
                rw [hc] at h
                rw [Bool.or_eq_true] at hc
                exact ⟨_, fun C => o_cut_own hx (bndL hlo) (bndR hhi) (elemAt_eq he) e2.size (hc.imp Nat.eq_of_beq_eq_true (by intro h; simpa [Nat.blt_eq] using h)) g2 g3, h⟩
              | false =>
                rw [hc] at h
                rw [Bool.or_eq_false_iff] at hc
                have hlh : ¬ lo < hi := by
                  intro hlt
                  have := hc.2
                  rw [show Nat.blt lo hi = true by simpa [Nat.blt_eq] using hlt] at this
                  cases this
                have e : hi = lo := by omega
                subst e
                exact ⟨_, fun C => o_cut_empty hx (bndL hlo) (bndR hhi) (elemAt_eq he) e2.size g3, h⟩
          · cases h
theorem evFA_snd {t : TypeId} {x : Operand} {n : Nat} (h : evFA T env t x n k = some r) : SndP P ⟨dst, .fieldAddr t x n, ty, pos, after, gu⟩ env H k r := by
  unfold evFA at h
  split at h
  · cases h
  · rename_i e he
    have e1 := Tab.tyAt_eq he
    subst e1
    split at h
    · rename_i fs htd
      split at h
      · cases h
      · rename_i fl hfl
        split at h
        · cases h
        · rename_i e2 he2
          have e3 := Tab.tyAt_eq he2
          have hsz : e2.sz ≠ 0 := by
            intro h0
            rw [h0] at h
            cases h
          rw [beq_false hsz] at h
          simp only [cond_false] at h
          have hi : (P.info? fl.type).map (·.size) = some e2.sz := e3 ▸ e2.size
          split at h
          · rename_i id ver off hx; exact ⟨_, fun C => o_fld_ptr hx (htd ▸ e.hu) hfl hi hsz, h⟩
          · rename_i cs hx; exact ⟨_, fun C => o_fld_adr hx (htd ▸ e.hu) hfl hi hsz, h⟩
          · cases h
    · cases h
theorem evField_snd {t : TypeId} {x : Operand} {n : Nat} (h : evField T env t x n k = some r) : SndP P ⟨dst, .field t x n, ty, pos, after, gu⟩ env H k r := by
  unfold evField at h
  split at h
  · cases h
  · rename_i e he
    have e1 := Tab.tyAt_eq he
    subst e1
    split at h
    · rename_i fs htd
      split at h
      · cases h
      · rename_i fl hfl
        split at h
        · cases h
        · rename_i e2 he2
          have e3 := Tab.tyAt_eq he2
          have h1 := (bif_some h).1; replace h := (bif_some h).2
          split at h
          · rename_i cs hx
            split at h
            · rename_i d hd; exact ⟨_, fun C => o_field hx (htd ▸ e.hu) hfl (e3 ▸ e2.hu) h1 hd, h⟩
            · cases h
          · cases h
    · cases h
theorem evIA_snd {t : TypeId} {x y : Operand} (h : evIA T env t x y k = some r) : SndP P ⟨dst, .indexAddr t x y, ty, pos, after, gu⟩ env H k r := by
  unfold evIA at h
  split at h
  · cases h
  · rename_i i hi
    obtain ⟨kd, hy⟩ := natAt_eq hi
    split at h
    · cases h
    · rename_i e he
      have e1 := Tab.tyAt_eq he
      subst e1
      split at h
      · rename_i el htd
        split at h
        · cases h
        · rename_i e2 he2
          have e3 := Tab.tyAt_eq he2
          subst e3
          split at h
          · rename_i n cs hx
            have h1 := (bif_some h).1; replace h := (bif_some h).2
            rw [Bool.and_eq_true] at h1
            have g1 : i < n := by simpa [Nat.blt_eq] using h1.1
            have g2 : i * e2.sz < cs.length := by simpa [Nat.blt_eq] using h1.2
            refine ⟨_, fun C => ?_, h⟩
            have := o_ix_rd (P := P) (C := C) (H := H.abs) (dst := dst) (ty := ty) (pos := pos) (after := after) (gu := gu) hx hy (htd ▸ e.hu) e2.size (Int.natCast_nonneg _) (by omega) (by rw [Int.toNat_natCast]; exact g2)
            rwa [Int.toNat_natCast] at this
          · rename_i id ver off n sz hx
            have h1 := (bif_some h).1; replace h := (bif_some h).2
            have g1 : i < n := by simpa [Nat.blt_eq] using h1
            refine ⟨_, fun C => ?_, h⟩
            have := o_ix_own (P := P) (C := C) (H := H.abs) (dst := dst) (ty := ty) (pos := pos) (after := after) (gu := gu) hx hy (htd ▸ e.hu) e2.size (Int.natCast_nonneg _) (by omega)
            rwa [Int.toNat_natCast] at this
          · cases h
      · rename_i len el htd
        split at h
        · cases h
        · rename_i e2 he2
          have e3 := Tab.tyAt_eq he2
          subst e3
          split at h
          · rename_i id ver off hx
            have h1 := (bif_some h).1; replace h := (bif_some h).2
            have g1 : i < len := by simpa [Nat.blt_eq] using h1
            refine ⟨_, fun C => ?_, h⟩
            have := o_ix_arr (P := P) (C := C) (H := H.abs) (dst := dst) (ty := ty) (pos := pos) (after := after) (gu := gu) hx hy (htd ▸ e.hu) e2.size (Int.natCast_nonneg _) (by omega)
            rwa [Int.toNat_natCast] at this
          · cases h
      · cases h
theorem OpD.sub {P : Program} {C : Ctx} {o : Oper} {E : Nat → D} {Hh H' : Heap} {d d' : D} (h : OpD P C o E Hh d H') (hs : ∀ K β v, DR K β true v d → DR K β true v d') (ho : OkD H' d → OkD H' d') : OpD P C o E Hh d' H' :=
  ⟨h.len, fun K β a w Kc Q hw hx hk hn => h.go K β a w Kc Q hw hx hk fun K' β' v w' h1 h2 h3 h4 h5 => hn K' β' v w' h1 h2 h3 (hs _ _ _ h4) (ho h5)⟩
theorem zvD_dr {K : Mem} {β : Nat → Nat → BT} {z v : Value} (h : DR K β true v (.v z)) : DR K β true v (zvD z) := by
  have e := h.v_inv
  subst e
  cases v with
  | agg cs =>
    have g : DR K β true (.agg cs.toList.toArray) (.agg (cs.toList.map D.v)) := .agg _ cs.toList _ (by simp) fun j u d hu hd => by
      rw [List.getElem?_map, hu] at hd
      simp at hd; subst hd; exact .v _ _
    have e : cs.toList.toArray = cs := Array.toArray_toList
    rw [e] at g
    exact g
  | _ => exact .v _ _
theorem zvD_ok {Hh : Heap} (z : Value) : OkD Hh (zvD z) := by
  cases z with
  | agg cs => exact .agg _ fun c hc => by obtain ⟨u, _, rfl⟩ := List.mem_map.1 hc; exact .v _
  | _ => exact .v _
theorem miss_sub {P : Program} {C : Ctx} {o : Oper} {E : Nat → D} {Hh H' : Heap} {z : Value} {ok : Bool} (h : OpD P C o E Hh (bif ok then .tup [.v z, .v (.bool false)] else .v z) H') : OpD P C o E Hh (bif ok then .tup [zvD z, .v (.bool false)] else zvD z) H' := by
  cases ok with
  | false => exact h.sub (fun K β v hv => zvD_dr hv) fun _ => zvD_ok z
  | true =>
    refine h.sub (fun K β v hv => ?_) fun _ => .tup _ (by simp; exact ⟨zvD_ok z, .v _⟩)
    obtain ⟨us, rfl, hl, hd⟩ := hv.tup_inv
    match us, hl with
    | [a, b], _ => exact tupR rfl (by simp; exact ⟨zvD_dr (hd 0 a _ rfl rfl), hd 1 b _ rfl rfl⟩)
theorem evLook_snd {t : TypeId} {x y : Operand} {ok : Bool} (h : evLook T env H t x y ok k = some r) : SndP P ⟨dst, .lookup t x y ok, ty, pos, after, gu⟩ env H k r := by
  unfold evLook at h
  split at h
  · cases h
  · rename_i e he
    have e1 := Tab.tyAt_eq he
    subst e1
    split at h
    · rename_i kt et htd
      split at h
      · cases h
      · rename_i ek hek
        have e2 := Tab.tyAt_eq hek
        subst e2
        split at h
        · cases h
        · rename_i ee hee
          have e3 := Tab.tyAt_eq hee
          subst e3
          have hf := (bif_some h).1; replace h := (bif_some h).2
          split at h
          · rename_i key hy
            split at h
            · rename_i ks cs hx
              split at h
              · rename_i j hj
                split at h
                · rename_i d hd; exact ⟨_, fun C => o_lookup_hit j hx hy (htd ▸ e.hu) ek.hu hf hj hd, h⟩
                · cases h
              · rename_i hj; exact ⟨_, fun C => miss_sub (o_lookup_miss hx hy (htd ▸ e.hu) ek.hu hf (z_of ee.hi) hj), h⟩
              · cases h
            · rename_i id ver hx
              split at h
              · cases h
              · rename_i b hb
                have hv := (bif_some h).1; replace h := (bif_some h).2
                have hv := Nat.eq_of_beq_eq_true hv
                obtain ⟨hlt, hB⟩ := EH.find_abs hb
                have hcs : b.cells 0 b.len = b.abs.cs := by rw [← EB.abs_part (by omega), List.drop_zero, ← EB.abs_len, List.take_length]
                rw [hcs] at h
                split at h
                · rename_i j hj
                  have hjl := (bif_some h).1; replace h := (bif_some h).2
                  have hjl : j < b.len := by simpa [Nat.blt_eq] using hjl
                  split at h
                  · rename_i kk d hd; exact ⟨_, fun C => o_lookupO_hit j hx hB hv hy (htd ▸ e.hu) ek.hu hf hj (by rw [EB.abs_at hjl, hd]), h⟩
                  · cases h
                · rename_i hj; exact ⟨_, fun C => miss_sub (o_lookupO_miss hx hB hv hy (htd ▸ e.hu) ek.hu hf (z_of ee.hi) hj), h⟩
                · cases h
            · cases h
          · cases h
    · cases h
theorem evExt_snd {x : Operand} {i : Nat} (h : evExt (P := P) env ⟨dst, .extract x i, ty, pos, after, gu⟩ x i k = some r) : SndP P ⟨dst, .extract x i, ty, pos, after, gu⟩ env H k r := by
  unfold evExt at h
  split at h
  · rename_i ds hx
    split at h
    · rename_i d hd; exact ⟨d, fun C => o_extract hx hd, h⟩
    · cases h
  · exact evPure_snd h
  · cases h
theorem evBuild_snd {t : TypeId} {ps : Array (Nat × Operand)} (h : evBuild T env t ps k = some r) : SndP P ⟨dst, .build t ps, ty, pos, after, gu⟩ env H k r := by
  unfold evBuild at h
  split at h
  · cases h
  · rename_i e he
    have e1 := Tab.tyAt_eq he
    subst e1
    split at h
    · rename_i fs htd
      split at h
      · cases h
      · rename_i p hp
        have e2 := Tab.plAt_eq hp
        split at h
        · rename_i cs hcs
          have hu : P.underlying e.t = some (.struct fs) := htd ▸ e.hu
          have := fun C => o_build (P := P) (C := C) (H := H.abs) (env := absE env) (dst := dst) (ty := ty) (pos := pos) (after := after) (gu := gu) (ps := ps.toList) hu e.hi (p.h fs (e2 ▸ hu)) hcs
          rw [Array.toArray_toList] at this
          exact ⟨_, this, h⟩
        · cases h
    · cases h
theorem evLen_snd {c : Call} (h : evLen T env ⟨dst, .call c, ty, pos, after, gu⟩ c k = some r) : SndP P ⟨dst, .call c, ty, pos, after, gu⟩ env H k r := by
  unfold evLen at h
  split at h
  · rename_i x t hc ha ht
    have hc' : c = { callee := .builtin .len, args := #[x], argTypes := #[t] } := by
      obtain ⟨ca, ⟨as⟩, ⟨ts⟩⟩ := c
      simp only at hc ha ht
      subst hc ha ht; rfl
    subst hc'
    split at h
    · rename_i n cs hx
      split at h
      · rename_i p hp; obtain ⟨e', e2⟩ := p; exact ⟨_, fun C => o_len_rd hx (elemAt_eq hp), h⟩
      · cases h
    · rename_i id ver off n sz hx
      split at h
      · rename_i p hp; obtain ⟨e', e2⟩ := p; exact ⟨_, fun C => o_len_own hx (elemAt_eq hp), h⟩
      · cases h
    · exact evPure_snd h
    · cases h
  · exact evPure_snd h
end

/-- All operations that change no block. -/
noncomputable def evP {P : Program} {X : Type} (T : Tab P) (env : Tr D) (H : EH) (o : Oper) (k : D → Option X) : Option X := match o.op with
  | .move x => k (evE env x)
  | .assign x => k (evE env x)
  | .pick c a b => evPick env c a b k
  | .load t x => evLoad T env H t x k
  | .binOp op t x y _ => evBin T env o op t x y k
  | .convert s t x => evConv T env H o s t x k
  | .makeInterface t x => evIface T env t x k
  | .makeFunc fn first cap => evFunc env fn first cap k
  | .slice t x yl yh ym => evCut T env o t x yl yh ym k
  | .fieldAddr t x n => evFA T env t x n k
  | .field t x n => evField T env t x n k
  | .indexAddr t x y => evIA T env t x y k
  | .lookup t x y ok => evLook T env H t x y ok k
  | .extract x i => evExt (P := P) env o x i k
  | .build t ps => evBuild T env t ps k
  | .call c => evLen T env o c k
  | _ => evPure P env o k
theorem evP_snd {P : Program} {X : Type} {T : Tab P} {env : Tr D} {H : EH} {o : Oper} {k : D → Option X} {r : X} (h : evP T env H o k = some r) : SndP P o env H k r := by
  obtain ⟨dst, op, ty, pos, after, gu⟩ := o
  unfold evP at h
  cases op <;> simp only at h
  case move x => exact ⟨_, fun C => o_move _ rfl, h⟩
  case assign x => exact ⟨_, fun C => o_assign _ rfl, h⟩
  case pick => exact evPick_snd h
  case load => exact evLoad_snd h
  case binOp => exact evBin_snd h
  case convert => exact evConv_snd h
  case makeInterface => exact evIface_snd h
  case makeFunc => exact evFunc_snd h
  case slice => exact evCut_snd h
  case fieldAddr => exact evFA_snd h
  case field => exact evField_snd h
  case indexAddr => exact evIA_snd h
  case lookup => exact evLook_snd h
  case extract => exact evExt_snd h
  case build => exact evBuild_snd h
  case call => exact evLen_snd h
  all_goals exact evPure_snd h
end Go.DL
