/-
  A logic of data for the walks: slices written out; calls that are lent what the caller owns. Plain lemmas over any program; no condition.
-/
import Derived.Test.YtpacdeiaimfiaaaDlI
import Derived.Lib.UnsafeStr
set_option linter.unusedSimpArgs false
set_option linter.unusedVariables false
namespace Go.DL
open Go.RowKit

/-! ### Slices written out -/
theorem foldl_set (off : Nat) : ∀ (vs : List Value) (k : Nat) (cs : Array Value), off + k + vs.length ≤ cs.size →
    ((vs.zipIdx k).foldl (fun cs p => cs.setIfInBounds (off + p.2) p.1) cs).toList = spl cs.toList (off + k) vs
  | [], k, cs, _ => by simp [spl]
  | v :: vs, k, cs, h => by
    rw [List.zipIdx_cons, List.foldl_cons, foldl_set off vs (k + 1) _ (by simp at h ⊢; omega)]
    simp at h
    apply List.ext_getElem?
    intro j
    rw [spl_get (by simp; omega), spl_get (by simp; omega)]
    simp only [Array.toList_setIfInBounds, List.getElem?_set, Array.length_toList]
    by_cases h1 : j < off + k
    · rw [if_pos (by omega), if_pos h1, if_neg (by omega)]
    · rw [if_neg h1]
      by_cases h2 : j = off + k
      · subst h2
        rw [if_pos (by omega), if_pos rfl, if_pos (by omega), if_pos (by simp)]
        simp
      · rw [if_neg (show ¬ j < off + (k + 1) by omega)]
        by_cases h3 : j < off + k + (v :: vs).length
        · rw [if_pos h3, if_pos (by simp at h3; omega)]
          have : j - (off + k) = (j - (off + (k + 1))) + 1 := by omega
          rw [this, List.getElem?_cons_succ]
        · rw [if_neg h3, if_neg (by simp at h3; omega), if_neg (by omega)]
theorem fill_run (sz : Nat) : ∀ (ps : List (Nat × Value)) (cs : Array Value), (∀ p ∈ ps, p.2.cells.size = sz ∧ p.1 * sz + sz ≤ cs.size) →
    ∃ r : Array Value, Instr.fill (fun i => some (i * sz, sz)) cs ps = some r ∧ r.toList = ps.foldl (fun c p => spl c (p.1 * sz) p.2.cells.toList) cs.toList
  | [], cs, _ => ⟨cs, rfl, rfl⟩
  | (i, v) :: ps, cs, h => by
    obtain ⟨h1, h2⟩ := h (i, v) (by simp)
    simp only at h1 h2
    have hset := foldl_set (i * sz) v.cells.toList 0 cs (by simp; omega)
    obtain ⟨r, e1, e2⟩ := fill_run sz ps (v.cells.zipIdx.foldl (fun cs (c, j) => cs.setIfInBounds (i * sz + j) c) cs) (fun p hp => by
      obtain ⟨h3, h4⟩ := h p (by simp [hp])
      refine ⟨h3, ?_⟩
      have : (v.cells.zipIdx.foldl (fun cs (c, j) => cs.setIfInBounds (i * sz + j) c) cs).size = cs.size := by
        rw [← Array.foldl_toList, Array.toList_zipIdx, ← Array.length_toList, hset, spl_length (by simp; omega), Array.length_toList]
      rw [this]; exact h4)
    refine ⟨r, ?_, ?_⟩
    · unfold Instr.fill
      simp only [h1]
      rw [if_neg (by simp; omega)]
      exact e1
    · rw [e2, List.foldl_cons, ← Array.foldl_toList, Array.toList_zipIdx, hset]
      simp
/-- The cells of a slice before its elements are laid. -/
def zeros (zv : Value) (n sz : Nat) : List Value := (List.range n).map fun j => zv.cells.toList.getD (j % sz) undef
section
variable {P : Program} {C : Ctx} {env : Nat → D} {H : Heap} {dst : Option Nat} {ty t t' e : TypeId} {pos : String} {after : Array Edge} {gu : Option (Nat × Bool)} {X Y Z : Operand}
theorem lit_core {K : Mem} {β : Nat → Nat → BT} {a : Act} (sz : Nat) : ∀ (ps : List (Nat × Operand)) (cv : List Value) (cd : List D), cv.length = cd.length → (∀ (j : Nat) u d, cv[j]? = some u → cd[j]? = some d → DR K β true u d) → (∀ d ∈ cd, OkD H d) →
    (∀ p ∈ ps, ((cellsD (ev env p.2)).all oneD) = true ∧ (cellsD (ev env p.2)).length = sz ∧ p.1 * sz + sz ≤ cd.length ∧ DR K β true (a.eval p.2) (ev env p.2) ∧ OkD H (ev env p.2)) →
    (ps.foldl (fun c p => spl c (p.1 * sz) (a.eval p.2).cells.toList) cv).length = (ps.foldl (fun c p => spl c (p.1 * sz) (cellsD (ev env p.2))) cd).length ∧
    (∀ (j : Nat) u d, (ps.foldl (fun c p => spl c (p.1 * sz) (a.eval p.2).cells.toList) cv)[j]? = some u → (ps.foldl (fun c p => spl c (p.1 * sz) (cellsD (ev env p.2))) cd)[j]? = some d → DR K β true u d) ∧
    (∀ d ∈ ps.foldl (fun c p => spl c (p.1 * sz) (cellsD (ev env p.2))) cd, OkD H d)
  | [], cv, cd, hl, hd, ho, _ => ⟨hl, hd, ho⟩
  | p :: ps, cv, cd, hl, hd, ho, hp => by
    obtain ⟨h1, h2, h3, h4, h5⟩ := hp p (by simp)
    obtain ⟨c1, c2, _⟩ := cellsD.val h4 h1
    have hcl : (a.eval p.2).cells.toList.length = sz := by rw [Array.length_toList, c1, h2]
    simp only [List.foldl_cons]
    refine lit_core sz ps _ _ ?_ ?_ ?_ fun q hq => ?_
    · rw [spl_length (by omega), spl_length (by omega)]; exact hl
    · intro j u d hu hd'
      rw [spl_get (by omega), hcl] at hu
      rw [spl_get (by omega), h2] at hd'
      by_cases g1 : j < p.1 * sz
      · rw [if_pos g1] at hu hd'; exact hd j u d hu hd'
      · rw [if_neg g1] at hu hd'
        by_cases g2 : j < p.1 * sz + sz
        · rw [if_pos g2] at hu hd'; exact c2 _ u d hu hd'
        · rw [if_neg g2] at hu hd'; exact hd j u d hu hd'
    · intro d hd'
      unfold spl at hd'
      rcases List.mem_append.1 hd' with hd' | hd'
      · rcases List.mem_append.1 hd' with hd' | hd'
        · exact ho d (List.mem_of_mem_take hd')
        · revert hd' h5
          generalize ev env p.2 = dd
          intro h5 hd'
          cases dd <;> first
            | (simp [cellsD] at hd'; subst hd'; exact h5)
            | (cases h5 with | agg _ h => exact h d hd')
      · exact ho d (List.mem_of_mem_drop hd')
    · obtain ⟨q1, q2, q3, q4, q5⟩ := hp q (by simp [hq])
      exact ⟨q1, q2, by rw [spl_length (by omega)]; exact q3, q4, q5⟩
theorem run_lit {w : World} {zv : Value} {sz len bytes : Nat} (ps : List (Nat × Value)) (ht : P.underlying t = some (.slice e)) (hi : (P.info? e).map (fun i => (i.zero, i.size, i.bytes)) = some (some zv, sz, bytes)) (hz : zv.cells.size = sz) (hlen : len * sz ≤ 16777216)
    (hp : ∀ p ∈ ps, p.2.cells.size = sz ∧ p.1 * sz + sz ≤ len * sz) :
    (Instr.buildSlice t len ps.toArray).run P w = .ok (.slice (some ⟨w.heap.size, 0, none⟩) len len) (w.alloc (.cells (ps.foldl (fun c p => spl c (p.1 * sz) p.2.cells.toList) (zeros zv (len * sz) sz)).toArray e)) := by
  obtain ⟨i, h1, h2, h3, h4⟩ := info_parts hi
  have hzero : ((Array.range (len * sz)).map (((if len * sz = 0 then (#[] : Array Value) else zv.cells)[· % (if len * sz = 0 then (#[] : Array Value) else zv.cells).size]!))).toList = zeros zv (len * sz) sz := by
    unfold zeros
    by_cases h0 : len * sz = 0
    · rw [h0]; simp
    · rw [if_neg h0, hz]
      rw [Array.toList_map, Array.toList_range]
      apply List.map_congr_left
      intro j hj
      have hs : 0 < sz := by rcases Nat.eq_zero_or_pos sz with h | h; subst h; simp at h0; exact h
      have hlt : j % sz < zv.cells.size := by rw [hz]; exact Nat.mod_lt _ hs
      rw [getElem!_pos zv.cells _ hlt]
      simp [hlt]
  obtain ⟨r, e1, e2⟩ := fill_run sz ps ((Array.range (len * sz)).map (((if len * sz = 0 then (#[] : Array Value) else zv.cells)[· % (if len * sz = 0 then (#[] : Array Value) else zv.cells).size]!))) (fun p hp' => by
    obtain ⟨g1, g2⟩ := hp p hp'
    exact ⟨g1, by simpa using g2⟩)
  rw [hzero] at e2
  have hr : r = (ps.foldl (fun c p => spl c (p.1 * sz) p.2.cells.toList) (zeros zv (len * sz) sz)).toArray := by rw [← e2]
  subst hr
  by_cases h0 : len * sz = 0
  · simp [h0] at e1
    simp [Instr.buildSlice, run_underlying ht, sizeOf, typeInfo, h1, h3, h0, newRow, e1]
  · simp only [h0, if_false] at e1
    simp [Instr.buildSlice, run_underlying ht, sizeOf, typeInfo, h1, h3, h0, newRow, zeroValue, h2, show ¬ 16777216 < len * sz by omega, e1]
theorem zeros_dr {K : Mem} {β : Nat → Nat → BT} (zs : List Value) : ∀ (j : Nat) u d, zs[j]? = some u → (zs.map D.v)[j]? = some d → DR K β true u d := by
  intro j u d hu hd
  rw [List.getElem?_map, hu] at hd; simp at hd; subst hd; exact .v _ _
/-- A slice written out, that nobody changes. -/
theorem o_lit_rd {zv : Value} {sz len bytes : Nat} {ps : List (Nat × Operand)} {cs : List D} (ht : P.underlying t = some (.slice e)) (hi : (P.info? e).map (fun i => (i.zero, i.size, i.bytes)) = some (some zv, sz, bytes)) (hz : zv.cells.size = sz) (hlen : len * sz ≤ 16777216)
    (hp : ∀ p ∈ ps, ((cellsD (ev env p.2)).all oneD) = true ∧ (cellsD (ev env p.2)).length = sz ∧ p.1 * sz + sz ≤ len * sz) (hcs : ps.foldl (fun c p => spl c (p.1 * sz) (cellsD (ev env p.2))) ((zeros zv (len * sz) sz).map D.v) = cs) (hpure : ∀ d ∈ cs, Pure' d) :
    OpD P C ⟨dst, .buildSlice t len ps.toArray, ty, pos, after, gu⟩ env H (.rd len cs) H := by
  subst hcs
  refine OpD.of (HLe.refl _) fun K β a w hw h hk => ?_
  have hmem : ∀ p ∈ ps, p.2 ∈ (Op.buildSlice t len ps.toArray).operands := fun p hp => by simp [Op.operands]; exact ⟨p.1, hp⟩
  have hcore := lit_core (H := H) (env := env) (a := a) (K := K) (β := β) sz ps (zeros zv (len * sz) sz) ((zeros zv (len * sz) sz).map D.v) (by simp) (zeros_dr _) (fun d hd => by obtain ⟨u, _, rfl⟩ := List.mem_map.1 hd; exact .v _) (fun p hp' => by
    obtain ⟨g1, g2, g3⟩ := hp p hp'
    exact ⟨g1, g2, by simpa [zeros] using g3, h _ (hmem p hp'), hk _ (hmem p hp')⟩)
  obtain ⟨k1, k2, k3⟩ := hcore
  have hrun := run_lit (P := P) (w := w) (ps.map fun p => (p.1, a.eval p.2)) ht hi hz hlen (fun p hp' => by
    obtain ⟨q, hq, rfl⟩ := List.mem_map.1 hp'
    obtain ⟨g1, g2, g3⟩ := hp q hq
    obtain ⟨c1, _, _⟩ := cellsD.val (h _ (hmem q hq)) g1
    exact ⟨by rw [c1]; exact g2, g3⟩)
  have hfold : (ps.map fun p => (p.1, a.eval p.2)).foldl (fun c p => spl c (p.1 * sz) p.2.cells.toList) (zeros zv (len * sz) sz) = ps.foldl (fun c p => spl c (p.1 * sz) (a.eval p.2).cells.toList) (zeros zv (len * sz) sz) := by
    rw [List.foldl_map]
  rw [hfold] at hrun
  refine ⟨_, β, .slice (some ⟨w.heap.size, 0, none⟩) len len, _, ?_, ⟨Mem.le_add hw.fresh, fun b c hb => ?_⟩, Agr.refl _ _, hw.still (ps.foldl (fun c p => spl c (p.1 * sz) (a.eval p.2).cells.toList) (zeros zv (len * sz) sz)).toArray e (0, 0), ?_, .rd _ _⟩
  · simp only [execOp, Sem.run_bind, List.map_toArray, hrun, Result.andThen_ok, Sem.run_pure]
  · unfold Mem.add at hb
    by_cases he : b = w.heap.size
    · exact .inr (.inl (by rw [he]; exact hw.size))
    · rw [if_neg he] at hb; exact .inl hb
  · refine .rd _ _ _ _ _ _ (Nat.le_refl _) k1 (fun j u hu => ⟨_, rfl, ?_⟩) fun j u d hu hd => ?_
    · rw [add_lit]
      unfold Mem.cell Mem.add
      simp only [if_true, Option.isSome_none, Bool.false_eq_true, if_false, Nat.zero_add, List.getElem?_toArray]
      exact hu
    · exact ((k2 j u d hu hd).down (hpure d (List.mem_of_getElem? hd))).mono (H := []) (Mem.le_add hw.fresh) (by intro h; cases h) (Agr.refl _ _)
/-- A slice written out, of the call's own. -/
theorem o_lit {zv : Value} {sz len bytes : Nat} {ps : List (Nat × Operand)} {cs : List D} (ht : P.underlying t = some (.slice e)) (hi : (P.info? e).map (fun i => (i.zero, i.size, i.bytes)) = some (some zv, sz, bytes)) (hz : zv.cells.size = sz) (hlen : len * sz ≤ 16777216) (hm : len ≤ 9223372036854775807)
    (hp : ∀ p ∈ ps, ((cellsD (ev env p.2)).all oneD) = true ∧ (cellsD (ev env p.2)).length = sz ∧ p.1 * sz + sz ≤ len * sz) (hcs : ps.foldl (fun c p => spl c (p.1 * sz) (cellsD (ev env p.2))) ((zeros zv (len * sz) sz).map D.v) = cs) (hl : cs.length = len * sz) :
    OpD P C ⟨dst, .buildSlice t len ps.toArray, ty, pos, after, gu⟩ env H (.own H.length 0 0 len sz) (H ++ [some ⟨cs, e, false, 0⟩]) := by
  subst hcs
  refine OpD.new _ (.own _ _ _ _ _ (okV_new _ _)) fun K β a w hw h hk => ?_
  have hmem : ∀ p ∈ ps, p.2 ∈ (Op.buildSlice t len ps.toArray).operands := fun p hp => by simp [Op.operands]; exact ⟨p.1, hp⟩
  have hcore := lit_core (H := H) (env := env) (a := a) (K := K) (β := β) sz ps (zeros zv (len * sz) sz) ((zeros zv (len * sz) sz).map D.v) (by simp) (zeros_dr _) (fun d hd => by obtain ⟨u, _, rfl⟩ := List.mem_map.1 hd; exact .v _) (fun p hp' => by
    obtain ⟨g1, g2, g3⟩ := hp p hp'
    exact ⟨g1, g2, by simpa [zeros] using g3, h _ (hmem p hp'), hk _ (hmem p hp')⟩)
  obtain ⟨k1, k2, k3⟩ := hcore
  have hrun := run_lit (P := P) (w := w) (ps.map fun p => (p.1, a.eval p.2)) ht hi hz hlen (fun p hp' => by
    obtain ⟨q, hq, rfl⟩ := List.mem_map.1 hp'
    obtain ⟨g1, g2, g3⟩ := hp q hq
    obtain ⟨c1, _, _⟩ := cellsD.val (h _ (hmem q hq)) g1
    exact ⟨by rw [c1]; exact g2, g3⟩)
  have hfold : (ps.map fun p => (p.1, a.eval p.2)).foldl (fun c p => spl c (p.1 * sz) p.2.cells.toList) (zeros zv (len * sz) sz) = ps.foldl (fun c p => spl c (p.1 * sz) (a.eval p.2).cells.toList) (zeros zv (len * sz) sz) := by
    rw [List.foldl_map]
  rw [hfold] at hrun
  refine ⟨_, .slice (some ⟨w.heap.size, 0, none⟩) len len, ?_, k1, k2, k3, fun β' hβ => ?_⟩
  · simp only [execOp, Sem.run_bind, List.map_toArray, hrun, Result.andThen_ok, Sem.run_pure]
  · have := DR.own (K := K) (β := β') H.length 0 0 len sz len (Nat.le_refl _) hm (by rw [hβ]; simp; rw [k1, hl]) (by rw [hβ])
    rw [hβ] at this; exact this

def litOK (env : Nat → D) (sz tot : Nat) (ps : List (Nat × Operand)) : Bool := ps.all fun p => ((cellsD (ev env p.2)).all oneD) && (Nat.beq (cellsD (ev env p.2)).length sz && Nat.ble (p.1 * sz + sz) tot)
theorem litOK.at {sz tot : Nat} {ps : List (Nat × Operand)} (h : litOK env sz tot ps = true) : ∀ p ∈ ps, ((cellsD (ev env p.2)).all oneD) = true ∧ (cellsD (ev env p.2)).length = sz ∧ p.1 * sz + sz ≤ tot := by
  intro p hp
  have := List.all_eq_true.1 h p hp
  rw [Bool.and_eq_true, Bool.and_eq_true] at this
  exact ⟨this.1, Nat.eq_of_beq_eq_true this.2.1, Nat.le_of_ble_eq_true this.2.2⟩
theorem allV {cs : List D} (h : cs.all isV = true) : ∀ d ∈ cs, Pure' d := by
  intro d hd
  have := List.all_eq_true.1 h d hd
  cases d <;> first | exact .v _ | cases this
theorem o_litR {zv : Value} {sz len bytes : Nat} {ps : List (Nat × Operand)} {cs : List D} (ht : P.underlying t = some (.slice e)) (hi : (P.info? e).map (fun i => (i.zero, i.size, i.bytes)) = some (some zv, sz, bytes)) (hz : zv.cells.size = sz) (hlen : Nat.ble (len * sz) 16777216 = true)
    (hp : litOK env sz (len * sz) ps = true) (hcs : ps.foldl (fun c p => spl c (p.1 * sz) (cellsD (ev env p.2))) ((zeros zv (len * sz) sz).map D.v) = cs) (hpure : cs.all isV = true) : OpD P C ⟨dst, .buildSlice t len ps.toArray, ty, pos, after, gu⟩ env H (.rd len cs) H :=
  o_lit_rd ht hi hz (Nat.le_of_ble_eq_true hlen) (litOK.at hp) hcs (allV hpure)
theorem o_litO {zv : Value} {sz len bytes : Nat} {ps : List (Nat × Operand)} {cs : List D} (ht : P.underlying t = some (.slice e)) (hi : (P.info? e).map (fun i => (i.zero, i.size, i.bytes)) = some (some zv, sz, bytes)) (hz : zv.cells.size = sz) (hlen : Nat.ble (len * sz) 16777216 = true) (hm : Nat.ble len 9223372036854775807 = true)
    (hp : litOK env sz (len * sz) ps = true) (hcs : ps.foldl (fun c p => spl c (p.1 * sz) (cellsD (ev env p.2))) ((zeros zv (len * sz) sz).map D.v) = cs) (hl : cs.length = len * sz) : OpD P C ⟨dst, .buildSlice t len ps.toArray, ty, pos, after, gu⟩ env H (.own H.length 0 0 len sz) (H ++ [some ⟨cs, e, false, 0⟩]) :=
  o_lit ht hi hz (Nat.le_of_ble_eq_true hlen) (Nat.le_of_ble_eq_true hm) (litOK.at hp) hcs hl
/-- A datum without memory. -/
inductive Scal : D → Prop
  | any : Scal .any
  | v (x) : Scal (.v x)
  | agg (cs : List D) (h : ∀ c ∈ cs, Scal c) : Scal (.agg cs)
  | tup (cs : List D) (h : ∀ c ∈ cs, Scal c) : Scal (.tup cs)
  | iface (t : TypeId) (d : D) (h : Scal d) : Scal (.iface t d)
theorem DR.scal {K K' : Mem} {β β' : Nat → Nat → BT} {m m' : Bool} {x : Value} {d : D} (h : DR K β m x d) (hs : Scal d) : DR K' β' m' x d := by
  induction h with
  | any m x => exact .any _ _
  | v m x => exact .v _ _
  | agg m us cs hl _ ih => cases hs with | agg _ hs => exact .agg _ us cs hl fun j u d hu hd => ih j u d hu hd (hs d (List.mem_of_getElem? hd))
  | tup m us cs hl _ ih => cases hs with | tup _ hs => exact .tup _ us cs hl fun j u d hu hd => ih j u d hu hd (hs d (List.mem_of_getElem? hd))
  | iface m t u d _ ih => cases hs with | iface _ _ hs => exact .iface _ t u d (ih hs)
  | mp => cases hs
  | omp => cases hs
  | fn => cases hs
  | rd => cases hs
  | adr => cases hs
  | own => cases hs
  | own0 => cases hs
  | ptr => cases hs
/-- A block of the call's own is held for good from here on; its frozen cells may be marked. -/
theorem WS.hold {C : Ctx} {K : Mem} {β : Nat → Nat → BT} {H : Heap} {w : World} (h : WS C K β H w) {id : Nat} {b : Blk} (hb : H[id]? = some (some b)) (hr : (β id b.ver).real = true) {c : Array Value} {e : TypeId} {f : Nat × Nat} (hc : w.heap[(β id b.ver).blk]? = some (.cells c e f)) (off n : Nat) :
    ∃ f', WS C (K.add (β id b.ver).blk (.cells c e f')) β (H.set id none) (w.freeze ⟨(β id b.ver).blk, off, none⟩ n) := by
  have hid : id < H.length := (List.getElem?_eq_some_iff.1 hb).1
  have split : ∀ {i : Nat} {x : Blk}, (H.set id none)[i]? = some (some x) → i ≠ id ∧ H[i]? = some (some x) := by
    intro i x hx
    rw [List.getElem?_set] at hx
    by_cases e : id = i
    · rw [if_pos e, if_pos hid] at hx; cases hx
    · rw [if_neg e] at hx; exact ⟨Ne.symm e, hx⟩
  have hne : ∀ {i : Nat} {x : Blk}, H[i]? = some (some x) → (β i x.ver).real = true → i ≠ id → (β i x.ver).blk ≠ (β id b.ver).blk := fun hx hri hi he => hi (h.inj _ _ _ _ hx hb hri hr he)
  have hnk := h.apart id b hb hr
  have hlt : (β id b.ver).blk < w.heap.size := by
    rcases Nat.lt_or_ge (β id b.ver).blk w.heap.size with h1 | h1
    · exact h1
    · rw [Array.getElem?_eq_none h1] at hc; cases hc
  have hother : ∀ k, k ≠ (β id b.ver).blk → (w.freeze ⟨(β id b.ver).blk, off, none⟩ n).heap[k]? = w.heap[k]? := by
    intro k hk
    unfold World.freeze
    by_cases hn : n = 0
    · rw [if_pos hn]
    · rw [if_neg hn]; show (w.heap.modify _ _)[k]? = _; rw [Array.getElem?_modify, if_neg (Ne.symm hk)]
  have hself : ∃ f', (w.freeze ⟨(β id b.ver).blk, off, none⟩ n).heap[(β id b.ver).blk]? = some (.cells c e f') := by
    unfold World.freeze
    by_cases hn : n = 0
    · rw [if_pos hn]; exact ⟨f, hc⟩
    · rw [if_neg hn]
      obtain ⟨lo, hi⟩ := f
      exact ⟨_, by show (w.heap.modify _ _)[(β id b.ver).blk]? = _; rw [Array.getElem?_modify, if_pos rfl, hc]; rfl⟩
  obtain ⟨f', hself⟩ := hself
  have hle : Mem.le K (K.add (β id b.ver).blk (.cells c e f')) := Mem.le_add hnk
  refine ⟨f', fun b' c' hc' => ?_, fun i x hx => ?_, fun i x hx d hd => ?_, fun i j x y hx hy hri hrj he => ?_, fun i x hx hri => ?_, fun i x hx hri => ?_, ?_, ?_, h.agr, h.hle.trans (HLe.kill _ _), h.kle.trans hle⟩
  · unfold Mem.add at hc'
    by_cases he : b' = (β id b.ver).blk
    · rw [if_pos he] at hc'; cases hc'; subst he
      exact hself
    · rw [if_neg he] at hc'
      exact (hother b' he).trans (h.holds b' c' hc')
  · obtain ⟨hi, hx⟩ := split hx
    exact ((h.blk i x hx).mono hle (h.ok i x hx) (Agr.refl _ _)).other fun hri => hother _ (hne hx hri hi)
  · obtain ⟨hi, hx⟩ := split hx
    exact (h.ok i x hx d hd).mono (HLe.kill _ _)
  · obtain ⟨_, hx⟩ := split hx
    obtain ⟨_, hy⟩ := split hy
    exact h.inj i j x y hx hy hri hrj he
  · obtain ⟨hi, hx⟩ := split hx
    unfold Mem.add
    rw [if_neg (hne hx hri hi)]
    exact h.apart i x hx hri
  · obtain ⟨_, hx⟩ := split hx
    exact h.base i x hx hri
  · unfold World.freeze
    by_cases hn : n = 0
    · rw [if_pos hn]; exact h.size
    · rw [if_neg hn]; show C.B ≤ (w.heap.modify _ _).size; rw [Array.size_modify]; exact h.size
  · have hsz : (w.freeze ⟨(β id b.ver).blk, off, none⟩ n).heap.size = w.heap.size := by
      unfold World.freeze
      by_cases hn : n = 0
      · rw [if_pos hn]
      · rw [if_neg hn]; show (w.heap.modify _ _).size = _; rw [Array.size_modify]
    refine h.below.other (h.base id b hb hr) ?_ ?_ ?_ (by rw [hsz]; exact Nat.le_refl _) hother
    all_goals (unfold World.freeze; split <;> rfl)
theorem run_mark {P : Program} {w : World} {A : Addr} {n c : Nat} {t e : TypeId} (ht : P.underlying t = some (.slice e)) (he : P.underlying e = some (.int .u8)) {cs : Array Value} {g : TypeId} {f : Nat × Nat} (hc : w.heap[A.block]? = some (.cells cs g f)) :
    (convert t t (.slice (some A) n c)).run P w = .ok (.slice (some A) n c) (w.freeze ⟨A.block, cs.size, none⟩ 1) := by
  simp [convert, run_underlying ht, run_underlying he, markStringish, World.shape?, hc]
/-- A literal's bytes, held for good. -/
theorem o_keep {id ver n : Nat} {b : Blk} (hx : ev env X = .own id ver 0 n 1) (hb : H[id]? = some (some b)) (hv : b.ver = ver) (hl : b.cs.length = n) (hn : n ≠ 0) (ht : P.underlying t = some (.slice e)) (he : P.underlying e = some (.int .u8)) (hp : b.cs.all isV = true) :
    OpD P C ⟨dst, .convert t t X, ty, pos, after, gu⟩ env H (.rd n b.cs) (H.set id none) := by
  subst hv
  refine OpD.of (HLe.kill _ _) fun K β ac w hw h _ => ?_
  have h0 := h X (by simp [Op.operands])
  rw [hx] at h0
  rcases h0.own_inv with ⟨c, e1, hnc, _, hcc, hr⟩ | ⟨e1, _, h0, hr⟩
  · obtain ⟨us, rest, hh, hlen, htot, _, hd'⟩ := hw.real hb hr
    replace hr := BT.real_of hr
    obtain ⟨f', hhold⟩ := hw.hold hb hr hh (us ++ rest).toArray.size 1
    refine ⟨K.add (β id b.ver).blk (.cells (us ++ rest).toArray b.e f'), β, .slice (some ⟨(β id b.ver).blk, 0, none⟩) n c, _, ?_, ⟨Mem.le_add (hw.apart id b hb hr), fun b' c' hb' => ?_⟩, Agr.refl _ _, hhold, ?_, .rd _ _⟩
    · have hm := run_mark (P := P) (w := w) (A := ⟨(β id b.ver).blk, 0, none⟩) (n := n) (c := c) ht he hh
      simp only [execOp, e1, Sem.run_bind, hm, Result.andThen_ok, Sem.run_pure]
    · unfold Mem.add at hb'
      by_cases hbb : b' = (β id b.ver).blk
      · subst hbb; exact .inr (hw.base id b hb hr)
      · rw [if_neg hbb] at hb'; exact .inl hb'
    · refine .rd _ _ n c us b.cs hnc hlen (fun j u hu => ⟨_, rfl, ?_⟩) fun j u d hu hd => ((hd' j u d hu hd).scal ?_)
      · rw [add_lit]
        unfold Mem.cell Mem.add
        simp only [if_true, Option.isSome_none, Bool.false_eq_true, if_false, Nat.zero_add, List.getElem?_toArray]
        rw [List.getElem?_append_left (List.getElem?_eq_some_iff.1 hu).1]; exact hu
      · have := List.all_eq_true.1 hp d (List.mem_of_getElem? hd)
        cases d <;> first | exact .v _ | cases this
  · have h2 := hw.nil hb hr
    rw [h2] at hl; simp at hl; omega

/-! ### Cuts of bytes -/
section
theorem o_take {l : List UInt8} {k : Nat} {yh : Option Operand} (hx : ev env X = rdB l) (hh : bndH env l.length k yh) (ht : P.underlying t = some (.slice e)) (hi' : (P.info? e).map (·.size) = some 1) (h : k ≤ l.length) : OpD P C ⟨dst, .slice t X none yh none, ty, pos, after, gu⟩ env H (rdB (l.take k)) H := by
  have := o_cut_rd (P := P) (C := C) (H := H) (dst := dst) (ty := ty) (pos := pos) (after := after) (gu := gu) (yl := none) hx rfl hh ht hi' (Nat.zero_le _) h (bytesD_cut l 0 k)
  rw [List.drop_zero, Nat.sub_zero] at this
  show OpD _ _ _ _ _ (.rd (l.take k).length _) _
  rw [List.length_take, Nat.min_eq_left h]; exact this
theorem o_drop {l : List UInt8} {k : Nat} {yl : Option Operand} (hx : ev env X = rdB l) (hh : bnd env k yl) (ht : P.underlying t = some (.slice e)) (hi' : (P.info? e).map (·.size) = some 1) (h : k ≤ l.length) : OpD P C ⟨dst, .slice t X yl none none, ty, pos, after, gu⟩ env H (rdB (l.drop k)) H := by
  have := o_cut_rd (P := P) (C := C) (H := H) (dst := dst) (ty := ty) (pos := pos) (after := after) (gu := gu) (yh := none) hx hh rfl ht hi' h (Nat.le_refl _) (bytesD_cut l k l.length)
  rw [List.take_of_length_le (by simp)] at this
  show OpD _ _ _ _ _ (.rd (l.drop k).length _) _
  rw [List.length_drop]; exact this
/-- An append of what another block of the call's own holds. -/
theorem o_append_ownv (v' : Nat) {id ver n bytes m id2 ver2 off : Nat} {b b2 : Blk} {cs' : List D} (E : Elem P t e 1 bytes) (hx : ev env X = .own id ver 0 n 1) (hy : ev env Y = .own id2 ver2 off m 1) (hb : H[id]? = some (some b)) (hver : b.ver = ver) (he : b.e = e) (hv' : ver < v') (hn : n ≤ b.cs.length)
    (hb2 : H[id2]? = some (some b2)) (hver2 : b2.ver = ver2) (hne : b2.cs ≠ []) (hm2 : off + m ≤ b2.cs.length) (hcs : (b2.cs.drop off).take m = cs') (h1 : ∀ d ∈ cs', oneD d = true) (h63 : n + m ≤ 9223372036854775807) (hby : (n + m) * bytes ≤ 140737488355328) :
    OpD P C ⟨dst, .call { callee := .builtin .append, args := #[X, Y], argTypes := #[t, t] }, ty, pos, after, gu⟩ env H (.own id v' 0 (n + m) 1) (H.set id (some ⟨b.cs.take (n * 1) ++ cs', e, true, v'⟩)) := by
  subst hver2 hcs
  have hle : HLe H (H.set id (some ⟨b.cs.take (n * 1) ++ (b2.cs.drop off).take m, e, true, v'⟩)) := HLe.set hb (by simp; omega)
  refine OpD.of hle fun K β ac w hw h hk => ?_
  have hxv := h X (by simp [Op.operands, Call.operands])
  have hyv := h Y (by simp [Op.operands, Call.operands])
  rw [hx] at hxv; rw [hy] at hyv
  rcases hyv.own_inv with ⟨c, e1, hmc, _, _, hr2⟩ | ⟨_, _, _, hr⟩
  · obtain ⟨us, rest, hh, hlen, _, _, hd⟩ := hw.real hb2 hr2
    obtain ⟨u', w', t', hrun, hws, hdr⟩ := append_core (P := P) (ty := ty) (m := m) (cs' := (b2.cs.drop off).take m) E hw hxv hb hver he hv' (by omega) (some ⟨(β id2 b2.ver).blk, off, none⟩) c ((us.drop off).take m) (by simp [hlen]; omega)
      (fun j u hu => ⟨_, rfl, by
        rw [List.getElem?_take] at hu
        split at hu
        · rw [List.getElem?_drop] at hu
          rw [add_lit, cell_at hh, List.getElem?_append_left (List.getElem?_eq_some_iff.1 hu).1]; exact hu
        · cases hu⟩)
      (fun u hu => by
        obtain ⟨j, hj⟩ := List.getElem?_of_mem hu
        have hj' := hj
        rw [List.getElem?_take] at hj
        split at hj
        · rename_i hlt
          rw [List.getElem?_drop] at hj
          have h2 : off + j < b2.cs.length := by rw [← hlen]; exact (List.getElem?_eq_some_iff.1 hj).1
          refine oneD.val (hd _ u _ hj (List.getElem?_eq_getElem h2)) (h1 _ ?_)
          exact List.mem_of_getElem? (show ((b2.cs.drop off).take m)[j]? = _ by rw [List.getElem?_take, if_pos hlt, List.getElem?_drop, List.getElem?_eq_getElem h2])
        · cases hj) (by simp [hlen])
      (fun j u d hu hd' => by
        rw [List.getElem?_take] at hu hd'
        split at hu
        · rw [if_pos (by assumption), List.getElem?_drop] at hd'
          rw [List.getElem?_drop] at hu
          exact hd _ u d hu hd'
        · cases hu)
      (fun d hd' => hw.ok id2 b2 hb2 d (List.mem_of_mem_drop (List.mem_of_mem_take hd'))) h63 hby
    subst hver
    refine ⟨K, _, u', w', ?_, KX.refl _ _, addB_agr' hb hv', hws, hdr, .own _ _ _ _ _ ?_⟩
    · rw [← e1] at hrun
      simp only [execOp, resolve, invoke, builtin, Sem.run_bind, Sem.run_pure, Result.andThen_ok, List.map_toArray, List.map_cons, List.map_nil, hrun]
    · unfold okV
      rw [List.getElem?_set, if_pos rfl, if_pos (List.getElem?_eq_some_iff.1 hb).1]
      exact Nat.le_refl _
  · exact absurd (hw.nil hb2 hr) hne
end

theorem gd_on {b w : Bool} {d : D} (h : b = w) : gd (b == w) d = d := by subst h; simp [gd]
theorem Frz.bool {H : Heap} {b : Bool} (h : b = true) : Frz H (.v (.bool b)) (.v (.bool true)) := by subst h; exact .v _
/-! ### Drawn regions, walked in the text's order -/
def PG (P : Program) (C : Ctx) (N : Nat) (ops : Array Oper) (Hs : Heap → Prop) (i : Nat) (rest : List Oper) (env : Nat → D) (H : Heap) (F : List (D × Bool × Heap) → (Nat → D) → Heap → Prop) : Prop := ∃ l env' H', Plan P C N ops Hs i rest env H l env' H' ∧ F l env' H'
section
variable {P : Program} {C : Ctx} {N : Nat} {ops : Array Oper} {Hs : Heap → Prop} {i : Nat} {o : Oper} {rest : List Oper} {env : Nat → D} {H H1 : Heap} {F : List (D × Bool × Heap) → (Nat → D) → Heap → Prop} {d : D}
theorem PG.nil (h : F [] env H) : PG P C N ops Hs i [] env H F := ⟨[], env, H, .nil _ _ _, h⟩
theorem PG.op (d : D) (ho : ops[i]? = some o) (hg : o.guard = none) (hf : fits N o = true) (h : ∀ H, Hs H → OpD P C o env H d H) (r : PG P C N ops Hs (i + 1) rest (updO env o.dst d) H fun l e h => F ((d, false, H) :: l) e h) : PG P C N ops Hs i (o :: rest) env H F :=
  let ⟨_, e', H', p, f⟩ := r; ⟨_, e', H', .op ho hg hf h p, f⟩
theorem PG.opg (d : D) (b : Bool) (j : Nat) (want : Bool) (t : Nat) (ho : ops[i]? = some o) (hg : o.guard = some (j, want)) (ht : (ops[j]?).bind (·.dst) = some t) (hlt : Nat.blt t N = true) (hb : env t = .v (.bool b)) (hf : fits N o = true)
    (h : b = want → ∀ H, Hs H → OpD P C o env H d H) (r : PG P C N ops Hs (i + 1) rest (updO env o.dst (gd (b == want) d)) H fun l e h => F ((gd (b == want) d, false, H) :: l) e h) : PG P C N ops Hs i (o :: rest) env H F :=
  let ⟨_, e', H', p, f⟩ := r; ⟨_, e', H', .opg b j want t ho hg ht hlt hb hf h p, f⟩
theorem PG.opm (d : D) (H1 : Heap) (ho : ops[i]? = some o) (hg : o.guard = none) (hf : fits N o = true) (h : OpD P C o env H d H1) (r : PG P C N ops Hs (i + 1) rest (updO env o.dst d) H1 fun l e h => F ((d, true, H1) :: l) e h) : PG P C N ops Hs i (o :: rest) env H F :=
  let ⟨_, e', H', p, f⟩ := r; ⟨_, e', H', .opm ho hg hf h p, f⟩
end
theorem WC.drawn1 {P : Program} {C : Ctx} {N : Nat} {s : St} {Q : DX → St → Prop} {id : Nat} {ol : List Oper} (hm : P.follows .mixedOrders = true)
    (hp : PG P C N ol.toArray (fun H => H = s.H) 0 ol s.env s.H fun l env' H' => drawOK ol.toArray (l.map fun s => s.2.1) = true ∧ (l.all fun x => !x.2.1) = true ∧ Q .normal ⟨env', H'⟩) : WC P C N (.region id ol.toArray true) s Q := by
  obtain ⟨l, env', H', hp, hok, hc, hq⟩ := hp
  exact WC.drawn (fun H => H = s.H) l env' H' hm hp hok (.inr ⟨rfl, fun x hx e => by have := List.all_eq_true.1 hc x hx; rw [e] at this; cases this⟩) hq
theorem WC.drawn2 {P : Program} {C : Ctx} {N : Nat} {s : St} {Q : DX → St → Prop} {id : Nat} {ol : List Oper} (hm : P.follows .mixedOrders = true)
    (hp : PG P C N ol.toArray (fun _ => True) 0 ol s.env s.H fun l env' H' => drawOK ol.toArray (l.map fun s => s.2.1) = true ∧ True ∧ Q .normal ⟨env', H'⟩) : WC P C N (.region id ol.toArray true) s Q := by
  obtain ⟨l, env', H', hp, hok, _, hq⟩ := hp
  exact WC.drawn (fun _ => True) l env' H' hm hp hok (.inl fun _ => trivial) hq

theorem WC.drawn3 (Hs : Heap → Prop) {P : Program} {C : Ctx} {N : Nat} {s : St} {Q : DX → St → Prop} {id : Nat} {ol : List Oper} (hm : P.follows .mixedOrders = true) (h0 : Hs s.H)
    (hp : PG P C N ol.toArray Hs 0 ol s.env s.H fun l env' H' => drawOK ol.toArray (l.map fun s => s.2.1) = true ∧ (∀ x ∈ l, x.2.1 = true → Hs x.2.2) ∧ Q .normal ⟨env', H'⟩) : WC P C N (.region id ol.toArray true) s Q := by
  obtain ⟨l, env', H', hp, hok, hh, hq⟩ := hp
  exact WC.drawn Hs l env' H' hm hp hok (.inr ⟨h0, hh⟩) hq
theorem noHs {Hs : Prop} {b : Bool} (h : b = false) : b = true → Hs := fun e => by rw [h] at e; cases e

/-! ### Heads of loops -/
def vle : Option Blk → Option Blk → Prop
  | some b, some b' => b.ver ≤ b'.ver
  | _, none => True
  | none, some _ => False
def VLe : List (Option Blk) → List (Option Blk) → Prop
  | [], _ => True
  | _ :: _, [] => False
  | x :: xs, y :: ys => vle x y ∧ VLe xs ys
theorem VLe.le : ∀ {H H' : Heap}, VLe H H' → HLe H H'
  | [], _, _ => fun id v h => by unfold okV at h; simp at h
  | _ :: _, [], h => h.elim
  | x :: xs, y :: ys, h => fun id v hv => by
    rcases id with _ | id
    · unfold okV at *
      simp only [List.getElem?_cons_zero] at *
      cases y with
      | none => trivial
      | some b' =>
        cases x with
        | none => exact h.1.elim
        | some b => exact Nat.le_trans hv h.1
    · have := VLe.le h.2 id v (by unfold okV at *; simpa using hv)
      unfold okV at *
      simpa using this
theorem Head.mk' {H1 : Heap} {e : Nat → D} {W : List Nat} {A : List (Nat × D)} {H0 : Heap} {s : St} (live : Live s.env H0 A) (rest : ∀ j, W.elem j = false → s.env j = e j) (heap : s.H.take H1.length = H0) (le : VLe H1 H0) (okH : OkH H0 H0) : Head H1 e W A H0 s := ⟨live, rest, heap, le.le, okH⟩
theorem okv_map {α : Type} {H : Heap} (f : α → Value) (l : List α) : ∀ c ∈ l.map (fun x => D.v (f x)), OkD H c := fun c hc => by
  obtain ⟨x, _, rfl⟩ := List.mem_map.1 hc
  exact .v _

/-! ### Calls that are lent what the caller owns -/
theorem Scal.ok {d : D} (h : Scal d) (H : Heap) : OkD H d := by
  induction h with
  | any => exact .any
  | v x => exact .v x
  | agg cs _ ih => exact .agg cs ih
  | tup cs _ ih => exact .tup cs ih
  | iface t d _ ih => exact .iface t d ih
/-- Each operand reads as the datum beside it, when nobody changes the blocks. -/
def FrzAll (H : Heap) (env : Nat → D) : List Operand → List D → Prop
  | [], [] => True
  | x :: xs, d :: ds => Frz H (ev env x) d ∧ FrzAll H env xs ds
  | _, _ => False
theorem FrzAll.at {H : Heap} {env : Nat → D} : ∀ {xs : List Operand} {ds : List D}, FrzAll H env xs ds → xs.length = ds.length ∧ ∀ (j : Nat) x d, xs[j]? = some x → ds[j]? = some d → Frz H (ev env x) d
  | [], [], _ => ⟨rfl, by simp⟩
  | x :: xs, d :: ds, h => by
    obtain ⟨h1, h2⟩ := h.2.at
    refine ⟨by simp [h1], fun j y c hy hc => ?_⟩
    rcases j with _ | j
    · simp at hy hc; subst hy hc; exact h.1
    · exact h2 j y c (by simpa using hy) (by simpa using hc)
  | [], _ :: _, h => h.elim
  | _ :: _, [], h => h.elim
theorem o_callB {f : FuncId} {as : List Operand} {ats : Array TypeId} {ds : List D} {d : D} (hc : Callee P f) (hf : Fun P f ds (· = d)) (hz : FrzAll H env as ds) (hs : Scal d) :
    OpD P C ⟨dst, .call { callee := .value (.func f), args := as.toArray, argTypes := ats }, ty, pos, after, gu⟩ env H d H := by
  obtain ⟨hlen, hzz⟩ := hz.at
  refine ⟨HLe.refl _, fun K β a w Kc Q hw hx hk hn => ?_⟩
  have hrun : (execOp a.eval ⟨dst, .call { callee := .value (.func f), args := as.toArray, argTypes := ats }, ty, pos, after, gu⟩).run P w = .ok (.enter f (as.map a.eval).toArray) w := by
    simp [execOp, resolve, Act.eval, Deferred.ofValue, invoke, hc.run]
  refine Ending_upon hrun (hf (K.all β H w) w (as.map a.eval) (by simp [hlen]) (fun j v d' hv hd => ?_) hw.all_holds) fun e w'' ⟨v, d', K', h1, h2, h3, h4, h5, h6⟩ => ⟨v, h1, ?_⟩
  · rw [List.getElem?_map] at hv
    cases hj : as[j]? with
    | none => rw [hj] at hv; cases hv
    | some x =>
      rw [hj] at hv
      simp at hv
      subst hv
      have hm : x ∈ as := List.mem_of_getElem? hj
      exact (hw.frz (hzz j x d' hj hd) _ (hx x (by simp [Op.operands, Call.operands, hm]))).pure rfl
  · subst h2
    have hws := hw.ext (Mem.le.refl K) (fun _ _ h => .inl h) (fun b c hb => h4 b c (h3.le b c (hw.all_old hb))) h6
    exact hn K β v w'' (KX.refl _ _) (Agr.refl _ _) hws (h5.scal hs) (hs.ok H)
end
end Go.DL
