/-
  A logic of data for the walks: an evaluator of code on exact data: operations that change blocks, calls, guards. Plain lemmas over any program; no condition.
-/
import Derived.Test.YtbdibcpenihpdaaDlZa
set_option linter.unusedSimpArgs false
set_option linter.unusedVariables false
namespace Go.DL
open Go.RowKit

section
variable {P : Program} {X : Type}
/-- Something is made, or thrown, blocks are changed (c) or not, and it goes on so. -/
def SndX (P : Program) (o : Oper) (env : Tr D) (H : EH) (k : Bool → D → EH → Option X) (kp : D → EH → Option X) (r : X) : Prop :=
  ∃ (r0 : DOut) (c : Bool) (H' : EH), (∀ C, OpX P C o (absE env) H.abs fun x H'' => x = r0 ∧ H'' = H'.abs) ∧ (HLe H.abs H'.abs ∧ Mono H H') ∧ (c = false → H' = H ∧ ∃ d, r0 = .ret d ∧ ∀ C, OpD P C o (absE env) H.abs d H.abs) ∧
    (match r0 with | .ret d => k c d H' | .pan d => kp d H') = some r
def SndM (P : Program) (o : Oper) (env : Tr D) (H : EH) (k : Bool → D → EH → Option X) (r : X) : Prop := ∃ (d : D) (H' : EH), Mono H H' ∧ (∀ C, OpD P C o (absE env) H.abs d H'.abs) ∧ k true d H' = some r
theorem SndM.x {o : Oper} {env : Tr D} {H : EH} {k : Bool → D → EH → Option X} {kp : D → EH → Option X} {r : X} (h : SndM P o env H k r) : SndX P o env H k kp r := by
  obtain ⟨d, H', h0, h1, h2⟩ := h
  exact ⟨.ret d, true, H', fun C => (h1 C).x, ⟨(h1 ⟨0, default, fun _ => False, none, [], β0, fun _ => none⟩).len, h0⟩, (fun h => by cases h), h2⟩
theorem SndP.x {o : Oper} {env : Tr D} {H : EH} {k : Bool → D → EH → Option X} {kp : D → EH → Option X} {r : X} (h : SndP P o env H (fun d => k false d H) r) : SndX P o env H k kp r := by
  obtain ⟨d, h1, h2⟩ := h
  exact ⟨.ret d, false, H, fun C => (h1 C).x, ⟨HLe.refl _, Mono.refl _⟩, fun _ => ⟨rfl, d, rfl, h1⟩, h2⟩
noncomputable def EB.ext (b : EB) (ds : List D) : EB := ⟨b.len + ds.length, setL b.cs b.len ds, b.e, b.grow, b.ver⟩
theorem EB.abs_ext (b : EB) (ds : List D) : (b.ext ds).abs = { b.abs with cs := b.abs.cs ++ ds } := by
  have h := congrArg Blk.cs (EB.abs_app (b := b) (off := b.len) (ds := ds) b.ver (Nat.le_refl _))
  have h2 : b.abs.cs.take b.len = b.abs.cs := by rw [← EB.abs_len, List.take_length]
  simp only [h2] at h
  show Blk.mk _ _ _ _ = Blk.mk _ _ _ _
  rw [show (List.range (b.ext ds).len).map (b.ext ds).at = (b.app b.len ds b.ver).abs.cs from rfl, h]; rfl
noncomputable def extK {β : Type} (b : EB) (ds : List D) (k : EB → β) : β := setLK ds b.cs b.len fun t => natF (b.len + ds.length) fun n => k ⟨n, t, b.e, b.grow, b.ver⟩
theorem extK_eq {β : Type} (b : EB) (ds : List D) (k : EB → β) : extK b ds k = k (b.ext ds) := by unfold extK; rw [setLK_eq, natF_eq]; rfl
section
variable (T : Tab P) (env : Tr D) (H : EH)
noncomputable def evAlloc (t : TypeId) (k : Bool → D → EH → Option X) : Option X := match T.tyAt t with
  | none => none
  | some e => mkK (e.zv.cells.toList.map D.v) e.t false 0 fun b => pushK H b fun H' => k true (.ptr H.n 0 0) H'
noncomputable def evBox (t : TypeId) (x : Operand) (k : Bool → D → EH → Option X) : Option X :=
  bif (cellsD (evE env x)).all oneD then mkK (cellsD (evE env x)) t false 0 fun b => pushK H b fun H' => k true (.ptr H.n 0 0) H' else none
noncomputable def evLit (t : TypeId) (len : Nat) (ps : Array (Nat × Operand)) (k : Bool → D → EH → Option X) : Option X := match elemAt T t with
  | none => none
  | some (_, e2) => bif Nat.ble (len * e2.sz) 16777216 && Nat.ble len 9223372036854775807 && litOK (absE env) e2.sz (len * e2.sz) ps.toList then
    lstF (frc 4) (ps.toList.foldl (fun c p => spl c (p.1 * e2.sz) (cellsD (ev (absE env) p.2))) ((zeros e2.zv (len * e2.sz) e2.sz).map D.v)) fun cs =>
      bif Nat.beq cs.length (len * e2.sz) then mkK cs e2.t true 0 fun b => pushK H b fun H' => k true (.own H.n 0 0 len e2.sz) H' else none
    else none
noncomputable def evIns (t : TypeId) (m x y : Operand) (k : Bool → D → EH → Option X) : Option X := match T.tyAt t with
  | none => none
  | some e => (match e.td with
    | .map kt _ => (match T.tyAt kt with
      | none => none
      | some ek => bif flatKey ek.td then (match evE env m with
        | .omp id ver => bif Nat.beq ver 0 then (match evE env x with
          | .v key => (match H.find id with
            | none => none
            | some b => bif Nat.beq b.ver 0 then (match kFind ek.td key (keysD (b.cells 0 b.len)) 0 with
              | some none => extK b [.tup [.v key, evE env y]] fun b' => putK H id b' fun H' => k true (.v undef) H'
              | _ => none) else none)
          | _ => none) else none
        | _ => none) else none)
    | _ => none)
noncomputable def evStore (t : TypeId) (x y : Operand) (k : Bool → D → EH → Option X) : Option X := match T.tyAt t with
  | none => none
  | some e => (match evE env x with
    | .ptr id ver off => (match H.find id with
      | none => none
      | some b => bif Nat.beq b.ver ver && Nat.beq e.sz (cellsD (evE env y)).length && Nat.ble (off + (cellsD (evE env y)).length) b.len && (cellsD (evE env y)).all oneD then
        writeK b off (cellsD (evE env y)) fun b' => putK H id b' fun H' => k true (.v undef) H' else none)
    | _ => none)
noncomputable def evMap (t : TypeId) (res : Option Operand) (k : Bool → D → EH → Option X) : Option X := match res with
  | none => mkK [] t false 0 fun b => pushK H b fun H' => k true (.omp H.n 0) H'
  | some _ => none
noncomputable def evMake (t : TypeId) (x y : Operand) (k : Bool → D → EH → Option X) : Option X := match elemAt T t with
  | none => none
  | some (_, e2) => (match natAt env x with
    | none => none
    | some ln => (match natAt env y with
      | none => none
      | some cn => bif Nat.blt 0 e2.sz && Nat.ble ln cn && Nat.ble (e2.bytes * cn) 281474976710656 && Nat.ble cn 9223372036854775807 then
        mkK ((zeros e2.zv (ln * e2.sz) e2.sz).map D.v) e2.t true 0 fun b => pushK H b fun H' => natF ln fun ln' => k true (.own H.n 0 0 ln' e2.sz) H' else none))
/-- What is appended: so many, these cells. -/
noncomputable def evSrc (e2 : TE P) (t t' : TypeId) (y : Operand) : Option (Nat × List D) := match evE env y with
  | .rd m cs => bif Nat.beq t t' && Nat.beq cs.length (m * e2.sz) && cs.all oneD then some (m, cs) else none
  | .own id ver off m sz => (match H.find id with
    | none => none
    | some b => bif Nat.beq t t' && Nat.beq b.ver ver && Nat.beq sz e2.sz && Nat.ble (off + m * sz) b.len && (b.cells off (m * sz)).all oneD then some (m, b.cells off (m * sz)) else none)
  | .v (.slice none 0 0) => bif Nat.beq t t' then some (0, []) else none
  | .v (.string z) => (match T.tyAt t' with
    | none => none
    | some e' => (match e2.zv with
      | .int .u8 (.ofNat 0) => bif isStr e'.td && Nat.beq e2.sz 1 && Nat.beq e2.bytes 1 then some (z.data.toList.length, bytesD z.data.toList) else none
      | _ => none))
  | _ => none
noncomputable def evApp (c : Call) (k : Bool → D → EH → Option X) : Option X := match c.args.toList, c.argTypes.toList with
  | [x, y], [t, t'] => (match elemAt T t with
    | none => none
    | some (_, e2) => (match evSrc T env H e2 t t' y with
      | none => none
      | some (m, cs') => bif Nat.blt 0 e2.sz then (match evE env x with
        | .own id ver off n sz => (match H.find id with
          | none => none
          | some b => bif Nat.beq off 0 && Nat.beq b.ver ver && Nat.beq sz e2.sz && Nat.beq b.e e2.t && Nat.ble (n * sz) b.len && Nat.ble (n + m) 9223372036854775807 && Nat.ble ((n + m) * e2.bytes) 140737488355328 then
            appK b (n * sz) cs' (ver + 1) fun b' => putK H id b' fun H' => k true (.own id (ver + 1) 0 (n + m) sz) H' else none)
        | .v (.slice none 0 0) => bif Nat.ble m 9223372036854775807 && Nat.ble (m * e2.bytes) 140737488355328 then
            mkK cs' e2.t true 1 fun b' => pushK H b' fun H' => k true (.own H.n 1 0 m e2.sz) H' else none
        | _ => none) else none))
  | _, _ => none
noncomputable def evCopy (c : Call) (k : Bool → D → EH → Option X) : Option X := match c.args.toList, c.argTypes.toList with
  | [x, y], [t, _] => (match elemAt T t with
    | none => none
    | some (_, e2) => bif Nat.beq e2.sz 1 then (match evE env x with
      | .own id ver off n sz => (match H.find id with
        | none => none
        | some b => bif Nat.beq b.ver ver && Nat.beq sz 1 && Nat.ble (off + n) b.len then (match evE env y with
          | .rd m cs => bif Nat.beq cs.length m && cs.all oneD then writeK b off (cs.take (min m n)) fun b' => putK H id b' fun H' => k true (I64 ((min m n : Nat) : Int)) H' else none
          | .own id2 ver2 off2 m sz2 => (match H.find id2 with
            | none => none
            | some b2 => bif Nat.beq b2.ver ver2 && Nat.beq sz2 1 && Nat.ble (off2 + m) b2.len && (b2.cells off2 (min m n)).all oneD then
              writeK b off (b2.cells off2 (min m n)) fun b' => putK H id b' fun H' => k true (I64 ((min m n : Nat) : Int)) H' else none)
          | .v (.slice none 0 0) => k true (I64 ((0 : Nat) : Int)) H
          | _ => none) else none)
      | _ => none) else none)
  | _, _ => none
noncomputable def evKeep (s t : TypeId) (x : Operand) (k : Bool → D → EH → Option X) : Option X := match evE env x with
  | .own id ver off n sz => (match H.find id with
    | none => none
    | some b => (match elemAt T t with
      | none => none
      | some (_, e2) => bif isU8 e2.td && Nat.beq s t && Nat.beq off 0 && Nat.beq sz 1 && Nat.beq b.ver ver && Nat.beq b.len n && Nat.blt 0 n && (b.cells 0 b.len).all isV then
        lstF (frc 4) (b.cells 0 b.len) fun cs => killK H id fun H' => k true (.rd n cs) H' else none))
  | _ => none
noncomputable def evCall (call : FuncId → List D → EH → Option (DOut × EH × Bool)) (f : Operand) (args : Array Operand) (k : Bool → D → EH → Option X) (kp : D → EH → Option X) : Option X :=
  match evE env f with
  | .fn (.func g) cs => (match call g (args.toList.map (evE env) ++ cs) H with
    | some (.ret d, H', c) => k c d H'
    | some (.pan d, H', _) => kp d H'
    | none => none)
  | .v (.func (.func g) ⟨[]⟩ ⟨[]⟩) => (match call g (args.toList.map (evE env)) H with
    | some (.ret d, H', c) => k c d H'
    | some (.pan d, H', _) => kp d H'
    | none => none)
  | _ => none
end
end

section
variable {P : Program} {X : Type} {T : Tab P} {env : Tr D} {H : EH} {k : Bool → D → EH → Option X} {kp : D → EH → Option X} {r : X} {dst : Option Nat} {ty : TypeId} {pos : String} {after : Array Edge} {gu : Option (Nat × Bool)}
theorem evAlloc_snd {t : TypeId} (h : evAlloc T H t k = some r) : SndM P ⟨dst, .alloc t, ty, pos, after, gu⟩ env H k r := by
  unfold evAlloc at h
  split at h
  · cases h
  · rename_i e he
    have e1 := Tab.tyAt_eq he
    subst e1
    simp only [mkK_eq, pushK_eq] at h
    refine ⟨_, _, Mono.push _ _, fun C => ?_, h⟩
    rw [EH.abs_push, EB.abs_mk', ← EH.abs_len]
    exact o_alloc (z_of e.hi) rfl
theorem evBox_snd {t : TypeId} {x : Operand} (h : evBox env H t x k = some r) : SndM P ⟨dst, .box t x, ty, pos, after, gu⟩ env H k r := by
  unfold evBox at h
  have h1 := (bif_some h).1; replace h := (bif_some h).2
  simp only [mkK_eq, pushK_eq] at h
  refine ⟨_, _, Mono.push _ _, fun C => ?_, h⟩
  rw [EH.abs_push, EB.abs_mk', ← EH.abs_len]
  exact o_box rfl h1
theorem evLit_snd {t : TypeId} {len : Nat} {ps : Array (Nat × Operand)} (h : evLit T env H t len ps k = some r) : SndM P ⟨dst, .buildSlice t len ps, ty, pos, after, gu⟩ env H k r := by
  unfold evLit at h
  split at h
  · cases h
  · rename_i e' e2 he
    have h1 := (bif_some h).1; replace h := (bif_some h).2
    rw [Bool.and_eq_true, Bool.and_eq_true] at h1
    rw [lstF_eq (frc_eq 4)] at h
    have h2 := (bif_some h).1; replace h := (bif_some h).2
    simp only [mkK_eq, pushK_eq] at h
    refine ⟨_, _, Mono.push _ _, fun C => ?_, h⟩
    rw [EH.abs_push, EB.abs_mk', ← EH.abs_len]
    have hps : ps.toList.toArray = ps := Array.toArray_toList
    have := o_litV (P := P) (C := C) (H := H.abs) (env := absE env) (dst := dst) (ty := ty) (pos := pos) (after := after) (gu := gu) (ps := ps.toList) 0 (elemAt_eq he) e2.hi e2.hz h1.1.1 h1.1.2 h1.2 rfl (Nat.eq_of_beq_eq_true h2)
    rw [hps] at this
    exact this
theorem cells_all {b : EB} : b.cells 0 b.len = b.abs.cs := by rw [← EB.abs_part (by omega), List.drop_zero, ← EB.abs_len, List.take_length]
theorem evIns_snd {t : TypeId} {m x y : Operand} (h : evIns T env H t m x y k = some r) : SndM P ⟨dst, .insert t m x y, ty, pos, after, gu⟩ env H k r := by
  unfold evIns at h
  split at h
  · cases h
  · rename_i e he
    have e1 := Tab.tyAt_eq he
    subst e1
    split at h
    · rename_i kt et htd
      split at h
      · cases h
      · rename_i ek hek
        have e2 := Tab.tyAt_eq hek
        subst e2
        have hf := (bif_some h).1; replace h := (bif_some h).2
        split at h
        · rename_i id ver hm
          have hv := Nat.eq_of_beq_eq_true (bif_some h).1; replace h := (bif_some h).2
          subst hv
          split at h
          · rename_i key hx
            split at h
            · cases h
            · rename_i b hb
              have hbv := Nat.eq_of_beq_eq_true (bif_some h).1; replace h := (bif_some h).2
              obtain ⟨hlt, hB⟩ := EH.find_abs hb
              rw [cells_all] at h
              split at h
              · rename_i hj
                simp only [extK_eq, putK_eq] at h
                refine ⟨_, _, Mono.put _ _ _, fun C => ?_, h⟩
                rw [EH.abs_put _ hlt, EB.abs_ext]
                exact o_insert hm hx rfl (htd ▸ e.hu) ek.hu hf hB hbv hj
              · cases h
          · cases h
        · cases h
    · cases h
theorem evStore_snd {t : TypeId} {x y : Operand} (h : evStore T env H t x y k = some r) : SndM P ⟨dst, .store t x y, ty, pos, after, gu⟩ env H k r := by
  unfold evStore at h
  split at h
  · cases h
  · rename_i e he
    have e1 := Tab.tyAt_eq he
    subst e1
    split at h
    · rename_i id ver off hx
      split at h
      · cases h
      · rename_i b hb
        have h1 := (bif_some h).1; replace h := (bif_some h).2
        rw [Bool.and_eq_true, Bool.and_eq_true, Bool.and_eq_true] at h1
        obtain ⟨⟨⟨g1, g2⟩, g3⟩, g4⟩ := h1
        have g1 := Nat.eq_of_beq_eq_true g1
        have g2 := Nat.eq_of_beq_eq_true g2
        have g3 := Nat.le_of_ble_eq_true g3
        obtain ⟨hlt, hB⟩ := EH.find_abs hb
        simp only [writeK_eq, putK_eq] at h
        refine ⟨_, _, Mono.put _ _ _, fun C => ?_, h⟩
        rw [EH.abs_put _ hlt, EB.abs_write g3]
        exact o_store hx rfl hB g1 (g2 ▸ e.size) (by rw [EB.abs_len]; exact g3) g4
    · cases h
theorem evMap_snd {t : TypeId} {res : Option Operand} (h : evMap H t res k = some r) : SndM P ⟨dst, .makeMap t res, ty, pos, after, gu⟩ env H k r := by
  unfold evMap at h
  split at h
  · simp only [mkK_eq, pushK_eq] at h
    refine ⟨_, _, Mono.push _ _, fun C => ?_, h⟩
    rw [EH.abs_push, EB.abs_mk', ← EH.abs_len]
    exact o_makeMap trivial
  · cases h
theorem evMake_snd {t : TypeId} {x y : Operand} (h : evMake T env H t x y k = some r) : SndM P ⟨dst, .makeSlice t x y, ty, pos, after, gu⟩ env H k r := by
  unfold evMake at h
  split at h
  · cases h
  · rename_i e' e2 he
    split at h
    · cases h
    · rename_i ln hln
      split at h
      · cases h
      · rename_i cn hcn
        have h1 := (bif_some h).1; replace h := (bif_some h).2
        rw [Bool.and_eq_true, Bool.and_eq_true, Bool.and_eq_true] at h1
        obtain ⟨⟨⟨g1, g2⟩, g3⟩, g4⟩ := h1
        obtain ⟨k1, hx⟩ := natAt_eq hln
        obtain ⟨k2, hy⟩ := natAt_eq hcn
        simp only [mkK_eq, pushK_eq, natF_eq] at h
        refine ⟨_, _, Mono.push _ _, fun C => ?_, h⟩
        rw [EH.abs_push, EB.abs_mk', ← EH.abs_len]
        exact o_makeT 0 ln cn hx hy (elemAt_eq he) e2.hi e2.hz g1 rfl rfl (Nat.le_of_ble_eq_true g2) (Nat.le_of_ble_eq_true g3) (Nat.le_of_ble_eq_true g4)
theorem evSrc_eq {e' e2 : TE P} {t t' : TypeId} {y : Operand} {m : Nat} {cs' : List D} (he : elemAt T t = some (e', e2)) (hp : Nat.blt 0 e2.sz = true) (h : evSrc T env H e2 t t' y = some (m, cs')) : ∀ C, Src P C t t' ty e2.t e2.sz e2.bytes H.abs (ev (absE env) y) m cs' := by
  intro C
  have E : Elem P t e2.t e2.sz e2.bytes := Elem.of (elemAt_eq he) e2.hi e2.hz (by simpa [Nat.blt_eq] using hp)
  unfold evSrc at h
  split at h
  · rename_i m' cs hy
    have h1 := (bif_some h).1; replace h := (bif_some h).2
    cases h
    rw [Bool.and_eq_true, Bool.and_eq_true] at h1
    obtain ⟨⟨g1, g2⟩, g3⟩ := h1
    have g1 := Nat.eq_of_beq_eq_true g1
    subst g1
    rw [show ev (absE env) y = _ from hy]
    exact src_rd E (Nat.eq_of_beq_eq_true g2) (List.all_eq_true.1 g3)
  · rename_i id ver off m' sz hy
    split at h
    · cases h
    · rename_i b hb
      have h1 := (bif_some h).1; replace h := (bif_some h).2
      cases h
      rw [Bool.and_eq_true, Bool.and_eq_true, Bool.and_eq_true, Bool.and_eq_true] at h1
      obtain ⟨⟨⟨⟨g1, g2⟩, g3⟩, g4⟩, g5⟩ := h1
      have g1 := Nat.eq_of_beq_eq_true g1
      have g2 := Nat.eq_of_beq_eq_true g2
      have g3 := Nat.eq_of_beq_eq_true g3
      have g4 := Nat.le_of_ble_eq_true g4
      subst g1 g3
      obtain ⟨hlt, hB⟩ := EH.find_abs hb
      rw [show ev (absE env) y = _ from hy]
      exact src_own E hB g2 (by rw [EB.abs_len]; exact g4) (EB.abs_part g4) (List.all_eq_true.1 g5)
  · rename_i hy
    have h1 := (bif_some h).1; replace h := (bif_some h).2
    cases h
    have g1 := Nat.eq_of_beq_eq_true h1
    subst g1
    rw [show ev (absE env) y = _ from hy]
    exact src_nil E
  · rename_i z hy
    split at h
    · cases h
    · rename_i e3 he3
      have e4 := Tab.tyAt_eq he3
      subst e4
      split at h
      · rename_i hz
        have h1 := (bif_some h).1; replace h := (bif_some h).2
        cases h
        rw [Bool.and_eq_true, Bool.and_eq_true] at h1
        obtain ⟨⟨g1, g2⟩, g3⟩ := h1
        have g2 := Nat.eq_of_beq_eq_true g2
        have g3 := Nat.eq_of_beq_eq_true g3
        have hi := e2.hi
        rw [hz, g2, g3] at hi
        rw [g2, g3]
        have hS : ev (absE env) y = S z.data.toList := by show ev _ y = .v (.string ⟨z.data.toList.toArray⟩); rw [Array.toArray_toList]; exact hy
        rw [hS]
        exact src_str (elemAt_eq he) (isStr_eq g1 ▸ e3.hu) hi
      · cases h
  · cases h
theorem call_mk {c : Call} {b : Builtin} {as : List Operand} {ts : List TypeId} (hc : c.callee = .builtin b) (ha : c.args.toList = as) (ht : c.argTypes.toList = ts) : c = { callee := .builtin b, args := as.toArray, argTypes := ts.toArray } := by
  obtain ⟨ca, ⟨a⟩, ⟨t⟩⟩ := c
  simp only at hc ha ht
  subst hc ha ht; rfl
theorem evApp_snd {c : Call} (hc : c.callee = .builtin .append) (h : evApp T env H c k = some r) : SndM P ⟨dst, .call c, ty, pos, after, gu⟩ env H k r := by
  unfold evApp at h
  split at h
  · rename_i x y t t' ha ht
    have hc' := call_mk hc ha ht
    subst hc'
    split at h
    · cases h
    · rename_i e' e2 he
      split at h
      · cases h
      · rename_i m cs' hs
        have hp := (bif_some h).1; replace h := (bif_some h).2
        have hS := evSrc_eq (ty := ty) he hp hs
        split at h
        · rename_i id ver off n sz hx
          split at h
          · cases h
          · rename_i b hb
            have h1 := (bif_some h).1; replace h := (bif_some h).2
            rw [Bool.and_eq_true, Bool.and_eq_true, Bool.and_eq_true, Bool.and_eq_true, Bool.and_eq_true, Bool.and_eq_true] at h1
            obtain ⟨⟨⟨⟨⟨⟨g1, g2⟩, g3⟩, g4⟩, g5⟩, g6⟩, g7⟩ := h1
            have g1 := Nat.eq_of_beq_eq_true g1
            have g2 := Nat.eq_of_beq_eq_true g2
            have g3 := Nat.eq_of_beq_eq_true g3
            have g4 := Nat.eq_of_beq_eq_true g4
            have g5 := Nat.le_of_ble_eq_true g5
            subst g1 g3
            obtain ⟨hlt, hB⟩ := EH.find_abs hb
            simp only [appK_eq, putK_eq] at h
            refine ⟨_, _, Mono.put _ _ _, fun C => ?_, h⟩
            rw [EH.abs_put _ hlt, EB.abs_app _ g5, g4]
            exact o_appG (ver + 1) hx rfl (hS C) hB g2 g4 (Nat.lt_succ_self _) (by rw [EB.abs_len]; exact g5) (Nat.le_of_ble_eq_true g6) (Nat.le_of_ble_eq_true g7)
        · rename_i hx
          have h1 := (bif_some h).1; replace h := (bif_some h).2
          rw [Bool.and_eq_true] at h1
          simp only [mkK_eq, pushK_eq] at h
          refine ⟨_, _, Mono.push _ _, fun C => ?_, h⟩
          rw [EH.abs_push, EB.abs_mk', ← EH.abs_len]
          exact o_appGN hx rfl (hS C) (Nat.le_of_ble_eq_true h1.1) (Nat.le_of_ble_eq_true h1.2)
        · cases h
  · cases h
theorem evCopy_snd {c : Call} (hc : c.callee = .builtin .copy) (h : evCopy T env H c k = some r) : SndM P ⟨dst, .call c, ty, pos, after, gu⟩ env H k r := by
  unfold evCopy at h
  split at h
  · rename_i x y t t' ha ht
    have hc' := call_mk hc ha ht
    subst hc'
    split at h
    · cases h
    · rename_i e' e2 he
      have hs1 := Nat.eq_of_beq_eq_true (bif_some h).1; replace h := (bif_some h).2
      have hi : (P.info? e2.t).map (·.size) = some 1 := hs1 ▸ e2.size
      split at h
      · rename_i id ver off n sz hx
        split at h
        · cases h
        · rename_i b hb
          have h1 := (bif_some h).1; replace h := (bif_some h).2
          rw [Bool.and_eq_true, Bool.and_eq_true] at h1
          obtain ⟨⟨g1, g2⟩, g3⟩ := h1
          have g1 := Nat.eq_of_beq_eq_true g1
          have g2 := Nat.eq_of_beq_eq_true g2
          have g3 := Nat.le_of_ble_eq_true g3
          subst g2
          obtain ⟨hlt, hB⟩ := EH.find_abs hb
          split at h
          · rename_i m cs hy
            have h1 := (bif_some h).1; replace h := (bif_some h).2
            rw [Bool.and_eq_true] at h1
            have hl := Nat.eq_of_beq_eq_true h1.1
            simp only [writeK_eq, putK_eq] at h
            have hm1 : min m n ≤ n := Nat.min_le_right _ _
            refine ⟨_, _, Mono.put _ _ _, fun C => ?_, h⟩
            rw [EH.abs_put _ hlt, EB.abs_write (by rw [List.length_take]; omega)]
            exact o_copy (min m n) hx hy (elemAt_eq he) hi hB g1 hl rfl (by rw [EB.abs_len]; exact g3) (List.all_eq_true.1 h1.2)
          · rename_i id2 ver2 off2 m sz2 hy
            split at h
            · cases h
            · rename_i b2 hb2
              have h1 := (bif_some h).1; replace h := (bif_some h).2
              rw [Bool.and_eq_true, Bool.and_eq_true, Bool.and_eq_true] at h1
              obtain ⟨⟨⟨j1, j2⟩, j3⟩, j4⟩ := h1
              have j1 := Nat.eq_of_beq_eq_true j1
              have j2 := Nat.eq_of_beq_eq_true j2
              have j3 := Nat.le_of_ble_eq_true j3
              subst j2
              obtain ⟨hlt2, hB2⟩ := EH.find_abs hb2
              have hm1 : min m n ≤ n := Nat.min_le_right _ _
              have hm2 : min m n ≤ m := Nat.min_le_left _ _
              simp only [writeK_eq, putK_eq] at h
              refine ⟨_, _, Mono.put _ _ _, fun C => ?_, h⟩
              rw [EH.abs_put _ hlt, EB.abs_write (by rw [EB.cells_len]; omega), ← EB.abs_part (by omega)]
              exact o_copyO (min m n) hx hy (elemAt_eq he) hi hB g1 hB2 j1 rfl (by rw [EB.abs_len]; exact g3) (by rw [EB.abs_len]; exact j3) (by rw [EB.abs_part (by omega)]; exact List.all_eq_true.1 j4)
          · rename_i hy; exact ⟨_, _, Mono.refl _, fun C => o_copyN hx hy (elemAt_eq he) hi, h⟩
          · cases h
      · cases h
  · cases h
theorem evKeep_snd {s t : TypeId} {x : Operand} (h : evKeep T env H s t x k = some r) : SndM P ⟨dst, .convert s t x, ty, pos, after, gu⟩ env H k r := by
  unfold evKeep at h
  split at h
  · rename_i id ver off n sz hx
    split at h
    · cases h
    · rename_i b hb
      split at h
      · cases h
      · rename_i e' e2 he
        have h1 := (bif_some h).1; replace h := (bif_some h).2
        simp only [Bool.and_eq_true] at h1
        obtain ⟨⟨⟨⟨⟨⟨⟨g1, g2⟩, g3⟩, g4⟩, g5⟩, g6⟩, g7⟩, g8⟩ := h1
        have g2 := Nat.eq_of_beq_eq_true g2
        have g3 := Nat.eq_of_beq_eq_true g3
        have g4 := Nat.eq_of_beq_eq_true g4
        have g5 := Nat.eq_of_beq_eq_true g5
        have g6 := Nat.eq_of_beq_eq_true g6
        have g7 : 0 < n := by simpa [Nat.blt_eq] using g7
        subst g2 g3 g4
        obtain ⟨hlt, hB⟩ := EH.find_abs hb
        rw [cells_all] at g8 h
        simp only [lstF_eq (frc_eq 4), killK_eq] at h
        refine ⟨_, _, Mono.kill _ _, fun C => ?_, h⟩
        rw [EH.abs_kill hlt]
        exact o_keep hx hB g5 (by rw [EB.abs_len]; exact g6) (by omega) (elemAt_eq he) (isU8_eq g1 ▸ e2.hu) g8
  · cases h
/-- A call that is known. -/
def CallOk (P : Program) (call : FuncId → List D → EH → Option (DOut × EH × Bool)) : Prop := ∀ (g : FuncId) (ds : List D) (H : EH) (o : DOut) (H' : EH) (c : Bool), call g ds H = some (o, H', c) → Callee P g ∧ (HLe H.abs H'.abs ∧ Mono H H') ∧ (FunM P g ds H.abs fun x H'' => x = o ∧ H'' = H'.abs) ∧ (c = false → H' = H ∧ ∃ d, o = .ret d)
theorem argsAre_map (E : Nat → D) : ∀ (as : List Operand), ArgsAre E as (as.map (ev E))
  | [] => trivial
  | _ :: as => ⟨.inl rfl, argsAre_map E as⟩
theorem evCall_snd {call : FuncId → List D → EH → Option (DOut × EH × Bool)} (hok : CallOk P call) {f : Operand} {args : Array Operand} {ats : Array TypeId} (h : evCall env H call f args k kp = some r) :
    SndX P ⟨dst, .call { callee := .value f, args, argTypes := ats }, ty, pos, after, gu⟩ env H k kp r := by
  have hargs : args.toList.toArray = args := Array.toArray_toList
  unfold evCall at h
  have key : ∀ (g : FuncId) (cs : List D) (o : DOut) (H' : EH) (c : Bool), FnIs (ev (absE env) f) g cs → call g (args.toList.map (evE env) ++ cs) H = some (o, H', c) → (match o with | .ret d => k c d H' | .pan d => kp d H') = some r → SndX P ⟨dst, .call { callee := .value f, args, argTypes := ats }, ty, pos, after, gu⟩ env H k kp r := by
    intro g cs o H' c hF hc hr
    obtain ⟨h1, h2, h3, h4⟩ := hok g _ H o H' c hc
    have hX : ∀ C, OpX P C ⟨dst, .call { callee := .value f, args, argTypes := ats }, ty, pos, after, gu⟩ (absE env) H.abs fun x H'' => x = o ∧ H'' = H'.abs := fun C => by
      have := x_callV (P := P) (C := C) (dst := dst) (ty := ty) (pos := pos) (after := after) (gu := gu) (ats := ats) (as := args.toList) hF h1 h3 (argsAre_map _ _)
      rw [hargs] at this
      exact this
    refine ⟨o, c, H', hX, h2, fun hc => ?_, hr⟩
    obtain ⟨e1, d, e2⟩ := h4 hc
    subst e1 e2
    exact ⟨rfl, d, rfl, fun C => (hX C).d (HLe.refl _)⟩
  split at h
  · rename_i g cs hf
    split at h
    · rename_i d H' c hc; exact key g cs (.ret d) H' c (.inl hf) hc h
    · rename_i d H' c hc; exact key g cs (.pan d) H' c (.inl hf) hc h
    · cases h
  · rename_i g hf
    split at h
    · rename_i d H' c hc; exact key g [] (.ret d) H' c (.inr ⟨hf, rfl⟩) (by rw [List.append_nil]; exact hc) h
    · rename_i d H' c hc; exact key g [] (.pan d) H' c (.inr ⟨hf, rfl⟩) (by rw [List.append_nil]; exact hc) h
    · cases h
  · cases h
end

/-- All operations. -/
noncomputable def evO {P : Program} {X : Type} (T : Tab P) (call : FuncId → List D → EH → Option (DOut × EH × Bool)) (env : Tr D) (H : EH) (o : Oper) (k : Bool → D → EH → Option X) (kp : D → EH → Option X) : Option X := match o.op with
  | .call c => (match c.callee with
    | .value f => evCall env H call f c.args k kp
    | .builtin .append => evApp T env H c k
    | .builtin .copy => evCopy T env H c k
    | .builtin _ => evP T env H o fun d => k false d H
    | .invoke _ _ => none)
  | .convert s t x => (match evE env x with
    | .own _ _ _ _ _ => (match elemAt T t with
      | some _ => evKeep T env H s t x k
      | none => evP T env H o fun d => k false d H)
    | _ => evP T env H o fun d => k false d H)
  | .alloc t => evAlloc T H t k
  | .box t x => evBox env H t x k
  | .buildSlice t len ps => evLit T env H t len ps k
  | .insert t m x y => evIns T env H t m x y k
  | .store t x y => evStore T env H t x y k
  | .makeMap t res => evMap H t res k
  | .makeSlice t x y => evMake T env H t x y k
  | _ => evP T env H o fun d => k false d H
theorem evO_snd {P : Program} {X : Type} {T : Tab P} {call : FuncId → List D → EH → Option (DOut × EH × Bool)} (hok : CallOk P call) {env : Tr D} {H : EH} {o : Oper} {k : Bool → D → EH → Option X} {kp : D → EH → Option X} {r : X} (h : evO T call env H o k kp = some r) : SndX P o env H k kp r := by
  obtain ⟨dst, op, ty, pos, after, gu⟩ := o
  unfold evO at h
  cases op
  case call c =>
    simp only at h
    obtain ⟨ca, args, ats⟩ := c
    cases ca with
    | value f => exact evCall_snd hok h
    | invoke r m => cases h
    | builtin b =>
      cases b
      case append => exact (evApp_snd rfl h).x
      case copy => exact (evCopy_snd rfl h).x
      all_goals exact (evP_snd h).x
  case convert s t x =>
    simp only at h
    split at h
    · split at h
      · exact (evKeep_snd h).x
      · exact (evP_snd h).x
    · exact (evP_snd h).x
  case alloc => exact (evAlloc_snd h).x
  case box => exact (evBox_snd h).x
  case buildSlice => exact (evLit_snd h).x
  case insert => exact (evIns_snd h).x
  case store => exact (evStore_snd h).x
  case makeMap => exact (evMap_snd h).x
  case makeSlice => exact (evMake_snd h).x
  all_goals exact (evP_snd h).x
end Go.DL
