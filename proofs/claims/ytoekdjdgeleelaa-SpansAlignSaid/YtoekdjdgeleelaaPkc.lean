/-
  What the laws stand on, part 3 of 4: plain lemmas; no condition.
-/
import Derived.Test.YtoekdjdgeleelaaPkb
set_option linter.unusedSimpArgs false
set_option linter.unusedVariables false
set_option linter.unusedSectionVars false
namespace Go.DL
open Go.RowKit

theorem rho_id {m n j : Nat} (h : j < m) : rho (List.range m) n j = j := by unfold rho; rw [List.getElem?_range h]
theorem ren_id {H0 : Heap} {n : Nat} {d : D} (h : OkD H0 d) : Ren (rho (List.range H0.length) n) d d := by
  induction h with
  | any => exact .pure _ .any
  | v x => exact .pure _ (.v _)
  | agg cs _ ih => exact .agg _ _ rfl fun j c d hc hd => by rw [hc] at hd; cases hd; exact ih c (List.mem_of_getElem? hc)
  | tup cs _ ih => exact .tup _ _ rfl fun j c d hc hd => by rw [hc] at hd; cases hd; exact ih c (List.mem_of_getElem? hc)
  | fn f cs _ ih => exact .fn _ _ _ rfl fun j c d hc hd => by rw [hc] at hd; cases hd; exact ih c (List.mem_of_getElem? hc)
  | iface t d _ ih => exact .iface _ _ _ ih
  | mp ks cs => exact .pure _ (.mp _ _)
  | rd n cs => exact .pure _ (.rd _ _)
  | adr cs => exact .pure _ (.adr _)
  | own id ver off n sz h => exact .own _ _ _ _ _ (rho_id h.lt)
  | ptr id ver off h => exact .ptr _ _ _ (rho_id h.lt)
  | omp id ver h => exact .omp _ _ (rho_id h.lt)
theorem renB_id {H0 : Heap} {n : Nat} : ∀ {l : List (Option Blk)}, OkH H0 l → All2 (RenB (rho (List.range H0.length) n)) l l
  | [], _ => trivial
  | none :: _, h => ⟨.nil, renB_id (l := _) h⟩
  | some b :: _, h => ⟨.blk ⟨rfl, rfl, rfl, rfl, fun j c d hc hd => by rw [hc] at hd; cases hd; exact ren_id (h.1 c (List.mem_of_getElem? hc))⟩, renB_id h.2⟩
theorem picks_range (own : Heap) : ∀ (l pre : List (Option Blk)), Picks (pre ++ l ++ own) (List.range' pre.length l.length) l
  | [], _ => trivial
  | b :: l, pre => by
    refine ⟨by simp, ?_⟩
    have := picks_range own l (pre ++ [b])
    simpa using this
theorem putI_range (own : Heap) : ∀ (l l' pre : List (Option Blk)), l'.length = l.length → putI (pre ++ l ++ own) (List.range' pre.length l.length) l' = pre ++ l' ++ own
  | [], [], _, _ => by simp [putI]
  | b :: l, b' :: l', pre, h => by
    have := putI_range own l l' (pre ++ [b']) (by simpa using h)
    simp only [List.length_append, List.length_cons, List.length_nil] at this
    rw [List.length_cons, List.range'_succ, putI]
    simpa using this
  | [], _ :: _, _, h => by simp at h
  | _ :: _, [], _, h => by simp at h
/-- What a round does to the blocks that its body has, whenever yield is called. -/
def YieldAt (P : Program) (l : Nat) (r : Loop) (S : Heap) (β0 : Nat → Nat → BT) (K0 : Mem) (H H' : Heap) (ds : List D) : Prop :=
  ∀ (K : Mem) (β : Nat → Nat → BT) (w : World) (vs : List Value), Mem.le K0 K → K l = some (.loop r) → Agr S β0 β → WS (given K β H w) K β H w → vs.length = ds.length → (∀ (j : Nat) v d, vs[j]? = some v → ds[j]? = some d → DR K β true v d) → (∀ d ∈ ds, OkD H d) →
    RoundT P l r vs.toArray w (Post K β H w fun o H'' => o = .ret (.v (.bool true)) ∧ H'' = H')
/-- A call within the loop l whose record is r. -/
structure InLoop (C : Ctx) (l : Nat) (r : Loop) (S : Heap) (β0 : Nat → Nat → BT) (K0 : Mem) : Prop where
  hW : C.W.heap[l]? = some (.loop r)
  hB : l < C.B
  hG : ¬ C.G l
  hb : C.hb = S
  b0 : C.b0 = β0
  kb : Mem.le K0 C.kb
  kl : C.kb l = some (.loop r)
theorem ren_all {ρ : Nat → Nat} : ∀ {ds : List D}, PureAll ds → All2 (Ren ρ) ds ds
  | [], _ => trivial
  | _ :: _, h => ⟨.pure _ h.1, ren_all h.2⟩
section
variable {P : Program} {C : Ctx} {env : Nat → D} {dst : Option Nat} {ty : TypeId} {pos : String} {after : Array Edge} {gu : Option (Nat × Bool)} {X : Operand}
/-- yield called where the iterator has blocks of its own behind those of the body. -/
theorem x_yieldF {as_ : List Operand} {ats : Array TypeId} {ds : List D} {l : Nat} {r : Loop} {S : Heap} {β0 : Nat → Nat → BT} {K0 : Mem} (H0 H0' own : Heap) (hX : ev env X = .v (.func (.yield l) #[] #[])) (hC : InLoop C l r S β0 K0) (hn : as_.length = r.params.size) (he : ArgsAre env as_ ds) (hpu : PureAll ds)
    (hS : S.length = H0.length) (hlen : H0'.length = H0.length) (hok : OkH H0 H0) (hok' : OkH H0' H0') (hy : YieldAt P l r S β0 K0 H0 H0' ds) :
    OpX P C ⟨dst, .call { callee := .value X, args := as_.toArray, argTypes := ats }, ty, pos, after, gu⟩ env (H0 ++ own) (fun o H'' => o = .ret (.v (.bool true)) ∧ H'' = H0' ++ own) := by
  refine x_yield hX hC.hW hC.hB hC.hG hn he fun K β w vs hw hl hv ho => ?_
  have hpk := picks_range own H0 []
  have hpt := putI_range own H0 H0' [] hlen
  rw [List.length_nil, ← List.range_eq_range', List.nil_append] at hpk hpt
  rw [List.nil_append] at hpt
  refine frameAt (T := RoundT P l r) (Q := fun o H'' => o = .ret (.v (.bool true)) ∧ H'' = H0') (Q' := fun o H'' => o = .ret (.v (.bool true)) ∧ H'' = H0' ++ own) (fun h hr => h.mono hr) (List.range H0.length) H0 (fun β1 e1 hs h1 h2 h3 => hy K β1 w vs (hC.kb.trans hw.kle) (hw.kle l _ hC.kl) (fun i v hv => ?_) hs h1 h2 h3) List.nodup_range hpk (renB_id hok) (ren_all hpu) (fun o0 H1 ⟨e1, e2⟩ => ?_) hw.give hl hv ho
  · have hi := hv.lt
    rw [e1, rho_id (by omega)]
    have := hw.agr
    rw [hC.hb, hC.b0] at this
    exact this i v hv
  · subst e1
    rw [e2]
    refine ⟨.ret (.v (.bool true)), H0', [], by simp [hlen], ?_, .ret (.pure _ (.v _)), rfl, by rw [hpt, List.append_nil]⟩
    rw [List.append_nil]
    have := renB_id (n := (H0 ++ own).length) hok'
    rwa [hlen] at this
end
/-- An iterator: it calls yield with xs 0, xs 1, .. in turn, n times, and returns; the body's blocks go from HH 0 to HH n. -/
def Iter (P : Program) (f : FuncId) (cs : List D) (ar : Nat) (HH : Nat → Heap) (n : Nat) (xs : Nat → List D) : Prop :=
  ∀ (l : Nat) (r : Loop) (K0 : Mem) (K : Mem) (β : Nat → Nat → BT) (w : World) (vs : List Value), (∀ k, k < n → YieldAt P l r (HH 0) β K0 (HH k) (HH (k + 1)) (xs k)) → r.params.size = ar → Mem.le K0 K → K l = some (.loop r) → WS (given K β (HH 0) w) K β (HH 0) w → vs.length = cs.length + 1 →
    (∀ (j : Nat) v d, vs[j]? = some v → (D.v (.func (.yield l) #[] #[]) :: cs)[j]? = some d → DR K β true v d) → (∀ d ∈ cs, OkD (HH 0) d) → Calls P f vs.toArray w (Post K β (HH 0) w fun o H' => (∃ d, o = .ret d) ∧ H' = HH n)
theorem inLoop_given {K K0 : Mem} {β : Nat → Nat → BT} {H : Heap} {w : World} {l : Nat} {r : Loop} (hw : WS (given K β H w) K β H w) (hK : Mem.le K0 K) (hKl : K l = some (.loop r)) : InLoop (given K β H w) l r H β K0 :=
  ⟨hw.holds l _ hKl, hw.klt hKl, (fun ⟨id, b, hb, hrl, e⟩ => by
    have := hw.apart id b hb hrl
    rw [e, hKl] at this
    cases this), rfl, rfl, hK, hKl⟩
/-- An iterator's contract, out of its body's walk. -/
theorem Iter.of {P : Program} {f : FuncId} {fn : Func} {c : Code} {cs : List D} {ar : Nat} {HH : Nat → Heap} {n : Nat} {xs : Nat → List D} (hf : P.funcs[f]? = some fn) (hb : fn.body = some c) (hn : cs.length + 1 ≤ fn.ntmps)
    (h : ∀ (C : Ctx) (l : Nat) (r : Loop) (β0 : Nat → Nat → BT) (K0 : Mem), InLoop C l r (HH 0) β0 K0 → r.params.size = ar → (∀ k, k < n → YieldAt P l r (HH 0) β0 K0 (HH k) (HH (k + 1)) (xs k)) → WC P C fn.ntmps c ⟨env0 (.v (.func (.yield l) #[] #[]) :: cs), HH 0⟩ (endM P fn (HH 0) fun o H' => (∃ d, o = .ret d) ∧ H' = HH n)) : Iter P f cs ar HH n xs := by
  intro l r K0 K β w vs hy har hK hKl hw hl hv ho
  have hh := h (given K β (HH 0) w) l r β K0 (inLoop_given hw hK hKl) har hy
  refine calls_fin hf hb rfl (hw.kB rfl) (hw.kB rfl) (hh K β _ w (enters (by simpa using hn) hw (by simpa using hl) hv (fun d hd => by rcases List.mem_cons.1 hd with rfl | hd; exact .v _; exact ho d hd))) fun e a' w' K' β' s' x hX hs' hdf hx hq => ?_
  have kept : ∀ {n : Nat} {H' : Heap}, Kept (HH 0) n s' H' → Ext (given K β (HH 0) w) K β (HH 0) K' β' H' ∧ WS (given K β (HH 0) w) K' β' H' w' := fun {n H'} hk => by
    obtain ⟨he, hn', hok⟩ := hk
    exact ⟨⟨hX.kx, hX.ag, he ▸ hX.le.take hn'⟩, he ▸ wsTake hs'.ws n (by rw [he]; exact hok.at) (hs'.ws.hle.take hn')⟩
  have fin : (∃ m H', Kept (HH 0) m s' H' ∧ EndsM P fn (fun d => (∃ d', DOut.ret d = .ret d') ∧ H' = HH n) H' s') → a'.defers = [] ∧ ∃ v, (results fn a'.tmps).run P w' = .ok v w' ∧ Post K β (HH 0) w (fun o H' => (∃ d, o = .ret d) ∧ H' = HH n) (.returned v) w' := by
    rintro ⟨m, H', hk, hE⟩
    obtain ⟨v, d, hr, hd, hz, hQ⟩ := hE _ _ K' β' a' w' hs'
    obtain ⟨k1, k2⟩ := kept hk
    exact ⟨hdf, v, hr, v, d, K', β', H', k1, k2, hd, hz, .inl ⟨rfl, hQ⟩⟩
  cases e <;> cases x <;> first
    | exact fin hq
    | exact hx.elim
    | exact hq.elim
    | (obtain ⟨n, H', hk, hz, ⟨d, hQ⟩, _⟩ := hq
       cases hQ)
theorem Marks.fresh {B n : Nat} {K : Mem} (hK : ∀ b c, K b = some c → b < n) : ∀ {ds : List Deferred}, Marks B K ds → ∀ d ∈ ds, d.target ≠ .collected n
  | [], _, d, hd => by cases hd
  | x :: ds, ⟨⟨r, h1, h2, _, _⟩, h⟩, d, hd => by
    rcases List.mem_cons.1 hd with rfl | hd
    · intro e
      rw [h1] at e
      cases e
      exact absurd (hK _ _ h2) (Nat.lt_irrefl _)
    · exact h.fresh hK d hd
/-- The statement that ranges over a function: its rounds run off their ends. -/
theorem WC.rangeFunc {P : Program} {C : Ctx} {N : Nat} {s : St} {Q : DX → St → Prop} {g : Operand} {ps : Array Tmp} {assign body : Code} {f : FuncId} {cs : List D} {ar : Nat} (HH : Nat → Heap) (n : Nat) (xs : Nat → List D) (hrd : C.rd = none) (hg : FnIs (ev s.env g) f cs) (hc : Callee P f) (h0 : HH 0 = s.H) (hHH : ∀ k, k ≤ n → HLe s.H (HH k)) (hmn : ∀ k, k < n → (HH k).length ≤ (HH (k + 1)).length) (har : ps.size = ar) (hps : ∀ p ∈ ps.toList, p < N)
    (hit : Iter P f cs ar HH n xs) (hb : ∀ k, k < n → ∀ C', WC P C' N assign ⟨updPs s.env ps.toList (xs k), HH k⟩ (thenQ (fun s1 => ∀ C'', WC P C'' N body s1 (bodyEnd (HH (k + 1)))) fun _ _ => False)) (hq : Q .normal ⟨s.env, HH n⟩) : WC P C N (.rangeFunc g ps assign body) s Q := by
  intro K β a w hs
  obtain ⟨us, eX, lu, du⟩ := fnD_frz hg (hs.ev g)
  have hcs : ∀ d ∈ cs, OkD s.H d := by
    rcases hg with h | ⟨_, rfl⟩
    · have := hs.evok g
      rw [h] at this
      cases this with
      | fn _ _ h => exact h
    · simp
  refine wpIn_rangeFunc fun fn _ => ?_
  let w1 := (w.alloc (.deferred (some [])))
  let r : Loop := { state := .ready, pending := none, fn, tmps := a.tmps, params := ps, assign, body, defers := w.heap.size }
  let w2 := w1.alloc (.loop r)
  have hsz : w1.heap.size = w.heap.size + 1 := by simp [w1]
  have hw1 := hs.ws.stillO (.deferred (some []))
  have hw2 := hw1.stillO (.loop r)
  let K1 := K.add w.heap.size (.deferred (some []))
  let K2 := K1.add w1.heap.size (.loop r)
  have hKl : K2 w1.heap.size = some (.loop r) := by show (if _ then _ else _) = _; rw [if_pos rfl]
  have hK1 : Mem.le K K1 := Mem.le_add hs.ws.fresh
  have hK2 : Mem.le K1 K2 := Mem.le_add hw1.fresh
  have hKd : K1 w.heap.size = some (.deferred (some [])) := by show (if _ then _ else _) = _; rw [if_pos rfl]
  have hBl : C.B ≤ w.heap.size := hs.ws.size
  refine ⟨w1.heap.size, [{ target := .collected w.heap.size, args := #[] }], w2, { target := .fn (.func f) us.toArray, args := #[.func (.yield w1.heap.size) #[] #[]] }, w2, f, (.func (.yield w1.heap.size) #[] #[] :: us).toArray, w2, ?_, ?_, fun _ _ => trivial, ?_, fun e => by simp [FW] at e, calls_FW ?_⟩
  · have := run_enterLoop_outer (P := P) (w := w) fn a.tmps ps assign body
    show (Instr.enterLoop fn a.tmps ps assign body C.rd).run P w = _
    rw [hrd, this, hsz]
  · simp [resolve, rangeCall, eX, Deferred.ofValue]; rfl
  · simp [invoke, hc.run]
  have hcall := hit w1.heap.size r K K2 β w2 (.func (.yield w1.heap.size) #[] #[] :: us) (fun k hk => ?_) har (hK1.trans hK2) hKl (by rw [h0]; exact hw2.give) (by simp [lu]) (fun j v d hv hd => ?_) (by rw [h0]; exact hcs)
  · refine hcall.mono fun e w3 ⟨v, d, K', β', H', k1, k2, k3, k4, k5⟩ => ?_
    rw [h0] at k1 k2
    rcases k5 with ⟨rfl, _, rfl⟩ | ⟨_, ⟨d', hd'⟩, _⟩
    · have j1 := Ext.up hw2 k1
      have j2 := hw2.back k2
      have hKl' : K' w1.heap.size = some (.loop r) := k1.kx.le _ _ hKl
      have hl3 := j2.holds _ _ hKl'
      refine ⟨r.pending, _, run_endLoop hl3 (by simp [r]), ?_⟩
      show AftX C N K β s.H Q .normal { a with defers := [{ target := .collected w.heap.size, args := #[] }] ++ a.defers } _
      have hkb : C.kb w1.heap.size = none := by
        cases e : C.kb w1.heap.size with
        | none => rfl
        | some c => have := hs.ws.klt (hs.ws.kle _ _ e); omega
      have hKle : Mem.le K (K'.del w1.heap.size) := fun b c hb' => by
        have := hs.ws.klt hb'
        unfold Mem.del
        rw [if_neg (by omega)]; exact k1.kx.le _ _ (hK2 _ _ (hK1 _ _ hb'))
      have hws := j2.drop hKl' (inert_loop r) (by omega) hkb (.loop { r with state := .exhausted })
      refine ⟨K'.del w1.heap.size, β', ⟨s.env, HH n⟩, .normal, ⟨⟨hKle, fun b c hb' => ?_⟩, j1.ag, hHH n (Nat.le_refl _)⟩, ⟨hws, hs.size, ⟨⟨w.heap.size, rfl, ?_, hBl, hs.defers.fresh fun b c hb' => hs.ws.klt hb'⟩, hs.defers.mono hKle⟩, fun t => (hs.rd t).mono hKle (fun _ => hs.ok t) j1.ag, fun t => (hs.ok t).mono (hHH n (Nat.le_refl _))⟩, trivial, hq⟩
      · unfold Mem.del at hb'
        by_cases e : b = w1.heap.size
        · rw [if_pos e] at hb'; cases hb'
        · rw [if_neg e] at hb'
          rcases j1.kx.new b c hb' with h1 | h1
          · have h2 : K1 b = some c := by
              have h1 : (if b = w1.heap.size then some (Obj.loop r) else K1 b) = some c := h1
              rwa [if_neg e] at h1
            by_cases e2 : b = w.heap.size
            · exact .inr (.inl (by omega))
            · have h2 : (if b = w.heap.size then some (Obj.deferred (some [])) else K b) = some c := h2
              rw [if_neg e2] at h2; exact .inl h2
          · exact .inr h1
      · unfold Mem.del
        rw [if_neg (by omega)]; exact k1.kx.le _ _ (hK2 _ _ hKd)
    · cases hd'
  · intro K3 β3 w3 vs hK3 hKl3 hag hw3 hl hv ho
    exact round_of hs ⟨rfl, rfl, rfl⟩ (hHH k (Nat.le_of_lt hk)) (hmn k hk) hps hK3 hKl3 (by rw [← h0]; exact hag) hw3 hl hv ho (hb k hk)
  · rcases j with _ | j
    · simp at hv hd; subst hv hd; exact .v _ _
    · exact (du j v d (by simpa using hv) (by simpa using hd)).mono (hK1.trans hK2) (fun _ => hcs d (List.mem_of_getElem? (by simpa using hd))) (Agr.refl _ _)
end Go.DL
namespace Go.DL
open Go.RowKit

theorem WS.redo {C : Ctx} {K : Mem} {β : Nat → Nat → BT} {H : Heap} {w : World} (h : WS C K β H w) {id : Nat} {b b' : Blk} (hb : H[id]? = some (some b)) (hv : b'.ver = b.ver) (hR : BlkR K β (β id b.ver) b' (w.heap[(β id b.ver).blk]?)) (ho : ∀ c ∈ b'.cs, OkD H c) : WS C K β (H.set id (some b')) w := by
  have hid : id < H.length := (List.getElem?_eq_some_iff.1 hb).1
  have hle : HLe H (H.set id (some b')) := HLe.set hb (by rw [hv]; exact Nat.le_refl _)
  have split : ∀ {i : Nat} {x : Blk}, (H.set id (some b'))[i]? = some (some x) → (i = id ∧ x = b') ∨ (i ≠ id ∧ H[i]? = some (some x)) := by
    intro i x hx
    rw [List.getElem?_set] at hx
    by_cases e : id = i
    · rw [if_pos e, if_pos hid] at hx; simp at hx; exact .inl ⟨e.symm, hx.symm⟩
    · rw [if_neg e] at hx; exact .inr ⟨Ne.symm e, hx⟩
  refine ⟨h.holds, fun i x hx => ?_, fun i x hx c hc => ?_, fun i j x y hx hy hri hrj he => ?_, fun i x hx hr => ?_, fun i x hx hr => ?_, h.size, h.below, h.agr, h.hle.trans hle, h.kle⟩
  · rcases split hx with ⟨rfl, rfl⟩ | ⟨hi, hx⟩
    · rw [hv]; exact hR
    · exact h.blk i x hx
  · rcases split hx with ⟨rfl, rfl⟩ | ⟨hi, hx⟩
    · exact (ho c hc).mono hle
    · exact (h.ok i x hx c hc).mono hle
  · rcases split hx with ⟨rfl, rfl⟩ | ⟨hi, hx1⟩ <;> rcases split hy with ⟨hj, rfl⟩ | ⟨hj, hy1⟩
    · exact hj.symm
    · rw [hv] at hri he; exact h.inj _ j b y hb hy1 hri hrj he
    · subst hj; rw [hv] at hrj he; exact h.inj i _ x b hx1 hb hri hrj he
    · exact h.inj i j x y hx1 hy1 hri hrj he
  · rcases split hx with ⟨rfl, rfl⟩ | ⟨hi, hx⟩
    · rw [hv] at hr ⊢; exact h.apart _ b hb hr
    · exact h.apart i x hx hr
  · rcases split hx with ⟨rfl, rfl⟩ | ⟨hi, hx⟩
    · rw [hv] at hr ⊢; exact h.base _ b hb hr
    · exact h.base i x hx hr
theorem BlkR.nilCell {K : Mem} {β : Nat → Nat → BT} {t : BT} {b : Blk} {o : Option Obj} (h : BlkR K β t b o) {off id sz : Nat} (hc : b.cs[off]? = some (.v (.slice none 0 0))) (hn : (β id 0).st = .none) : BlkR K β t { b with cs := b.cs.set off (.own id 0 0 0 sz) } o := by
  unfold BlkR at *
  cases hs : t.st with
  | none => rw [hs] at h; have h : b.cs = [] := h; rw [h] at hc; cases hc
  | cells =>
    rw [hs] at h
    obtain ⟨us, rest, e, hl, ht, hg, hd⟩ := h
    refine ⟨us, rest, e, by simpa using hl, ht, hg, fun j u d hu hd' => ?_⟩
    simp only at hd'
    rw [List.getElem?_set] at hd'
    by_cases e2 : off = j
    · subst e2
      rw [if_pos rfl] at hd'
      split at hd'
      · cases hd'
        rw [(hd off u _ hu hc).v_inv]; exact .own0 _ _ _ hn
      · cases hd'
    · rw [if_neg e2] at hd'; exact hd j u d hu hd'
  | map =>
    rw [hs] at h
    obtain ⟨es, ck, e, hE⟩ := h
    have hlt : off < b.cs.length := (List.getElem?_eq_some_iff.1 hc).1
    have hes : off < es.size := by rw [hE.len]; exact hlt
    obtain ⟨dv, e3, _⟩ := hE.rd off es[off] _ (Array.getElem?_eq_getElem hes) hc
    cases e3
/-- A cell that holds a nil slice: from here on an own row, nil as_ yet, the newest block. -/
theorem WC.nilCell {P : Program} {C : Ctx} {N : Nat} {s : St} {Q : DX → St → Prop} {c : Code} (id off : Nat) (b : Blk) (e : TypeId) (sz : Nat) (hb : s.H[id]? = some (some b)) (hc : b.cs[off]? = some (.v (.slice none 0 0))) (h : WC P C N c ⟨s.env, (s.H ++ [some (⟨[], e, true, 0⟩ : Blk)]).set id (some { b with cs := b.cs.set off (.own s.H.length 0 0 0 sz) })⟩ Q) : WC P C N c s Q := by
  intro K β a w hs
  have hid : id < s.H.length := (List.getElem?_eq_some_iff.1 hb).1
  have hb' : (s.H ++ [some (⟨[], e, true, 0⟩ : Blk)])[id]? = some (some b) := by rw [List.getElem?_append_left hid]; exact hb
  have h1 := hs.ws.newNil e
  have hβ : ∀ v, addB β s.H.length 0 ⟨0, 0, .none⟩ id v = β id v := fun v => addB_ne (.inl (by omega))
  have hle1 : HLe s.H (s.H ++ [some (⟨[], e, true, 0⟩ : Blk)]) := HLe.app _ _
  have hle2 : HLe (s.H ++ [some (⟨[], e, true, 0⟩ : Blk)]) ((s.H ++ [some (⟨[], e, true, 0⟩ : Blk)]).set id (some { b with cs := b.cs.set off (.own s.H.length 0 0 0 sz) })) := HLe.set hb' (Nat.le_refl _)
  have h2 := h1.redo (b' := { b with cs := b.cs.set off (.own s.H.length 0 0 0 sz) }) hb' rfl ((h1.blk id b hb').nilCell hc (by rw [addB_at])) fun c hc' => by
    rcases List.mem_or_eq_of_mem_set hc' with h3 | rfl
    · exact h1.ok id b hb' c h3
    · refine .own _ _ _ _ _ ?_
      unfold okV
      rw [List.getElem?_append_right (Nat.le_refl _), Nat.sub_self]
      exact Nat.le_refl _
  have hs' : SR C N K (addB β s.H.length 0 ⟨0, 0, .none⟩) ⟨s.env, (s.H ++ [some (⟨[], e, true, 0⟩ : Blk)]).set id (some { b with cs := b.cs.set off (.own s.H.length 0 0 0 sz) })⟩ a w :=
    ⟨h2, hs.size, hs.defers, fun t => (hs.rd t).mono (Mem.le.refl K) (fun _ => hs.ok t) addB_agr, fun t => (hs.ok t).mono (hle1.trans hle2)⟩
  exact wpIn_mono (h K _ a w hs') fun e a' w' hA => hA.mono ⟨KX.refl _ _, addB_agr, hle1.trans hle2⟩ fun _ _ h => h
theorem one_ok {H : Heap} {d : D} (h : OkD H d) : ∀ c ∈ [d], OkD H c := fun c hc => by
  rw [List.mem_singleton] at hc
  subst hc; exact h
end Go.DL
namespace Go.DL
open Go.RowKit
/-- A call that makes one block anew, and hands back a row of it. -/
theorem FunM.new1 {P : Program} {f : FuncId} {ds : List D} {H : Heap} {e : TypeId} {n sz : Nat} {cs : List D} (h : FunM P f ds [] fun o H' => o = .ret (ow 0 n sz) ∧ H' = [tb e n cs]) (hp : PureAll ds) (hc : ∀ c ∈ cs, Pure' c) : FunM P f ds H fun o H'' => o = .ret (ow H.length n sz) ∧ H'' = H ++ [tb e n cs] := by
  have hds : All2 (Ren (rho [] H.length)) ds ds := by
    have := hp.at
    clear h hp
    induction ds with
    | nil => trivial
    | cons d ds ih => exact ⟨.pure d (this d (by simp)), ih fun c hc => this c (by simp [hc])⟩
  exact FunM.frame [] [] [] [tb e n cs] h (by simp) trivial trivial hds rfl ⟨.pure hc, trivial⟩ (.own _ _ _ _ _ (by simp [rho])) rfl
end Go.DL
namespace Go.Proofs.Ytoekdjdgeleelaa
open Go.RowKit Go.DL

def goneB (x : Int) (p : Sp) : Bool := decide (p.2 ≤ x)
/-- What is left of a list of spans ahead of piece k. -/
def stS (l : List Sp) (T : List Int) : Nat → List Sp
  | 0 => l
  | k + 1 => (stS l T k).dropWhile (goneB (T.getD k 0))
theorem stS_len (l : List Sp) (T : List Int) : ∀ k, (stS l T k).length ≤ l.length
  | 0 => Nat.le_refl _
  | k + 1 => Nat.le_trans ((List.dropWhile_sublist _).length_le) (stS_len l T k)
def hdB (l : List Sp) (x : Int) : Bool := decide ((l.length : Int) > 0) && decide ((l.getD 0 (0, 0)).1 ≤ x)
theorem dw_step {A : List Sp} {x : Int} (c : (decide ((A.length : Int) > 0) && decide ((A.getD 0 (0, 0)).2 ≤ x)) = true) : A.dropWhile (goneB x) = (A.drop 1).dropWhile (goneB x) := by
  cases A with
  | nil => simp at c
  | cons p A =>
    have : goneB x p = true := by simp at c; simpa [goneB] using c
    rw [List.dropWhile_cons_of_pos this]; rfl
theorem dw_stop {A : List Sp} {x : Int} (c : (decide ((A.length : Int) > 0) && decide ((A.getD 0 (0, 0)).2 ≤ x)) = false) : A.dropWhile (goneB x) = A := by
  cases A with
  | nil => rfl
  | cons p A =>
    have : ¬ goneB x p = true := by simp at c; simpa [goneB] using c
    rw [List.dropWhile_cons_of_neg this]
theorem dw_pos {A : List Sp} {x : Int} (c : (decide ((A.length : Int) > 0) && decide ((A.getD 0 (0, 0)).2 ≤ x)) = true) : 1 ≤ A.length := by
  simp only [Bool.and_eq_true, decide_eq_true_eq] at c; omega
/-- Piece k of two sets. -/
abbrev pcD (a b : List Sp) (T : List Int) (k : Nat) : List D := [I64 (T.getD k 0), I64 (T.getD (k + 1) 0), Bo (hdB (stS a T (k + 1)) (T.getD k 0)), Bo (hdB (stS b T (k + 1)) (T.getD k 0))]
/-- The blocks of 'both' behind k pieces: the function's cell (nobody changes it), the cell of the row, the row. -/
abbrev bothH (J : Nat → List Sp) (k : Nat) : Heap := [none, some ⟨[ow 2 (J k).length 2], 22, false, 0⟩, tb 36 (J k).length ((J k).flatMap pc)]
theorem bothH_ok (J : Nat → List Sp) (k : Nat) : OkH (bothH J k) (bothH J k) := ⟨fun c hc => by
    have hc : c ∈ [ow 2 (J k).length 2] := hc
    rw [List.mem_singleton] at hc
    subst hc
    exact .own _ _ _ _ _ (Nat.le_refl (J k).length), okp (pu_pcs _), trivial⟩
theorem J_mono {J : Nat → List Sp} (hJ : ∀ k, (J k).length ≤ (J (k + 1)).length) : ∀ k, (J 0).length ≤ (J k).length
  | 0 => Nat.le_refl _
  | k + 1 => Nat.le_trans (J_mono hJ k) (hJ k)
set_option maxRecDepth 20000 in
set_option maxHeartbeats 4000000 in
theorem pieces1_c (a b : List Sp) (J : Nat → List Sp) (T : List Int) (hT : T.length ≤ 1099511627776) (ha : a.length ≤ 274877906944) (hb : b.length ≤ 274877906944) (hJ : ∀ k, (J k).length ≤ (J (k + 1)).length) (hends : Fun Try.prog 85 [rdPs [a, b]] (· = rdI T)) : Iter Try.prog 84 [.adr [rdP a], .adr [rdP b]] 1 (bothH J) (T.length - 1) (fun k => [.agg (pcD a b T k)]) := by
  refine Iter.of Try.func84 rfl (Nat.le_of_ble_eq_true rfl) fun C l_ r_ β0_ K0_ hC_ har_ hy_ => ?_
  refine WC.seq fun Fh1_ h1_ => ?_
  refine WC.region ?_
  refine RG.op _ _ rfl rfl (o_load_adr rfl Try.underlying22 rfl rfl) ?_
  refine RG.op _ _ rfl rfl (o_load_adr rfl Try.underlying22 rfl rfl) ?_
  refine RG.op _ _ rfl rfl (o_litP (cs := [rdP a, rdP b]) Try.underlying46 Ty.inf22 rfl rfl rfl rfl (pu_cons (by exact pu_of rfl) (pu_cons (by exact pu_of rfl) pu_nil))) ?_
  refine RG.op _ _ rfl rfl (o_call (ds := [rdPs [a, b]]) Ty.cal85 hends ⟨.inl rfl, trivial⟩ (by exact pua rfl)) ?_
  refine RG.op _ _ rfl rfl (o_assign (.rd _ _) rfl) ?_
  refine RG.nil (h1_ _ ?_)
  refine WC.seq fun Fh2_ h2_ => ?_
  refine WC.drawn1 (by kernel_rfl) ?_
  refine PG.op _ rfl rfl rfl (by rintro _ rfl; exact o_load_adr rfl Try.underlying22 rfl rfl) ?_
  refine PG.op _ rfl rfl rfl (by rintro _ rfl; exact o_load_adr rfl Try.underlying22 rfl rfl) ?_
  refine PG.op _ rfl rfl rfl (by rintro _ rfl; exact o_assign (.rd _ _) rfl) ?_
  refine PG.op _ rfl rfl rfl (by rintro _ rfl; exact o_assign (.rd _ _) rfl) ?_
  refine PG.nil ⟨by kernel_rfl, rfl, (h2_ _ ?_)⟩
  refine WC.seq fun Fh3_ h3_ => ?_
  refine WC.region ?_
  refine RG.op _ _ rfl rfl (o_assign (.v _) rfl) ?_
  refine RG.nil (h3_ _ ?_)
  refine WC.block ?_
  refine WC.loopU [5, 6, 7, 8, 15, 16, 17, 18, 19, 20, 21, 22, 23, 24, 25, 26, 27, 28, 29, 30, 31, 32, 33, 34, 35, 36, 37, 38, 39, 40, 41, 42, 43, 44, 45, 46, 47, 48, 49, 50, 51, 52, 53, 54, 55, 56, 57, 58, 59, 60, 61, 62, 63, 64, 65, 66, 67, 68, 69, 70, 71, 72, 73, 74, 75, 76, 77, 78, 79, 80, 81, 82, 83, 84, 85, 86, 87, 88, 89, 90, 91, 92, 93, 94, 95, 96, 97, 98, 99, 100, 101] (fun (k : Nat) => [(7, I64 (((k + 1) : Nat) : Int)), (5, rdP (stS a T k)), (6, rdP (stS b T k))]) (fun (k : Nat) => [(1, some ⟨[ow 2 (J k).length 2], 22, false, 0⟩), (2, tb 36 (J k).length ((J k).flatMap pc))]) (fun (k : Nat) => k ≤ T.length - 1) (fun (k : Nat) => T.length - 1 - k) 0 (Nat.zero_le _) ?lpa4_ ?lpb5_
  case lpa4_ =>
    exact .mk' ⟨⟨rfl, .v _⟩, ⟨rfl, .rd _ _⟩, ⟨rfl, .rd _ _⟩, trivial⟩ (same_refl _ _) (rfl) (by repeat (first | exact trivial | refine And.intro (Nat.le_refl _) ?_ | refine And.intro trivial ?_ | refine And.intro (by show _ ≤ _; (first | omega | (simp only [LS, len_pcs] <;> omega))) ?_)) (by repeat (first | exact trivial | refine And.intro (one_ok (.own _ _ _ _ _ (Nat.le_refl _))) ?_ | refine And.intro (okp (by repeat (first | exact pu_pcs _ | exact pu_bytes _ | exact pu_nil | exact pu_vs rfl | exact pu_map (fun _ => .v _) _ | exact pu_vals _ | refine pu_app ?_ ?_ | refine pu_cons (by exact pu_of rfl) ?_))) ?_))
  case lpb5_ =>
    rintro k hI
    have hla := stS_len a T k
    have hlb := stS_len b T k
    refine WC.seq fun Fh6_ h6_ => ?_
    refine WC.seq fun Fh7_ h7_ => ?_
    refine WC.region ?_
    refine RG.op _ _ rfl rfl (o_move (.v _) rfl) ?_
    refine RG.op _ _ rfl rfl (o_move (.rd _ _) rfl) ?_
    refine RG.op _ _ rfl rfl (o_len_rd rfl Try.underlying67) ?_
    refine RG.op _ _ rfl rfl (o_ltI rfl rfl) ?_
    refine RG.nil (h7_ _ ?_)
    refine WC.cond _ rfl (fun c3 => ?_) (fun c3 => ?_)
    ·
      have p3 := c3
      try simp only [CN] at p3
      have hkl : k + 1 < T.length := by omega
      have hjm := hJ k
      have hjm0 := J_mono hJ (k + 1)
      have hk1 : k < T.length - 1 := by omega
      refine WC.skip (h6_ _ ?_)
      refine WC.seq fun Fh8_ h8_ => ?_
      refine WC.block ?_
      refine WC.seq fun Fh9_ h9_ => ?_
      refine WC.block ?_
      refine WC.loopU [5, 21, 22, 23, 24, 25, 26, 27, 28, 29, 30, 31, 32, 33, 34, 35, 36, 37] (fun (A : List Sp) => [(5, rdP A)]) (fun (A : List Sp) => [(1, some ⟨[ow 2 (J k).length 2], 22, false, 0⟩), (2, tb 36 (J k).length ((J k).flatMap pc))]) (fun (A : List Sp) => A.length ≤ a.length ∧ A.dropWhile (goneB (T.getD k 0)) = stS a T (k + 1)) (fun (A : List Sp) => A.length) (stS a T k) ⟨hla, rfl⟩ ?lpa10_ ?lpb11_
      case lpa10_ =>
        exact .mk' ⟨⟨rfl, .rd _ _⟩, trivial⟩ (same_refl _ _) (rfl) (by repeat (first | exact trivial | refine And.intro (Nat.le_refl _) ?_ | refine And.intro trivial ?_ | refine And.intro (by show _ ≤ _; (first | omega | (simp only [LS, len_pcs] <;> omega))) ?_)) (by repeat (first | exact trivial | refine And.intro (one_ok (.own _ _ _ _ _ (Nat.le_refl _))) ?_ | refine And.intro (okp (by repeat (first | exact pu_pcs _ | exact pu_bytes _ | exact pu_nil | exact pu_vs rfl | exact pu_map (fun _ => .v _) _ | exact pu_vals _ | refine pu_app ?_ ?_ | refine pu_cons (by exact pu_of rfl) ?_))) ?_))
      case lpb11_ =>
        rintro A hI
        have hA1 := hI.1
        have hA2 := hI.2
        refine WC.seq fun Fh12_ h12_ => ?_
        refine WC.seq fun Fh13_ h13_ => ?_
        refine WC.drawn1 (by kernel_rfl) ?_
        refine PG.op _ rfl rfl rfl (by rintro _ rfl; exact o_move (.rd _ _) rfl) ?_
        refine PG.op _ rfl rfl rfl (by rintro _ rfl; exact o_len_rd rfl Try.underlying22) ?_
        refine PG.op _ rfl rfl rfl (by rintro _ rfl; exact o_gtI rfl rfl) ?_
        refine PG.op _ rfl rfl rfl (by rintro _ rfl; exact o_move (.v _) rfl) ?_
        refine PG.opg1 _ _ _ _ _ rfl rfl rfl rfl rfl rfl (fun hb => (by rintro _ rfl; exact o_move (.rd _ _) rfl)) ?_
        refine PG.opg1 _ _ _ _ _ rfl rfl rfl rfl rfl rfl (fun hb => (by rintro _ rfl; exact o_ixn_LZ (l := A) (f := pc) (0, 0) 0 pc_len rfl (gdT hb) rfl Try.underlying22 (sz_of Ty.inf36) rfl (by have hb' := hb; simp only [CN] at hb'; omega))) ?_
        refine PG.opg1 _ _ _ _ _ rfl rfl rfl rfl rfl rfl (fun hb => (by rintro _ rfl; exact o_fld_adr (gdT hb) Try.underlying36 rfl (sz_of Ty.inf2) (by decide))) ?_
        refine PG.opg1 _ _ _ _ _ rfl rfl rfl rfl rfl rfl (fun hb => (by rintro _ rfl; exact o_load_adr (gdT hb) Try.underlying2 rfl rfl)) ?_
        refine PG.opg1 _ _ _ _ _ rfl rfl rfl rfl rfl rfl (fun hb => (by rintro _ rfl; exact o_move (.rd _ _) rfl)) ?_
        refine PG.opg1 _ _ _ _ _ rfl rfl rfl rfl rfl rfl (fun hb => (by rintro _ rfl; exact o_move (.v _) rfl)) ?_
        refine PG.opg1 _ _ _ _ _ rfl rfl rfl rfl rfl rfl (fun hb => (by rintro _ rfl; exact o_sub (gdT hb) rfl (by first | omega | exact ubyte _ | (have hb' := hb; simp only [CN] at hb'; omega) | (simp only [LS, len_pcs] <;> omega) | (have hb' := hb; simp only [CN] at hb'; simp only [LS, len_pcs]; omega)) (by first | omega | exact ubyte _ | (have hb' := hb; simp only [CN] at hb'; omega) | (simp only [LS, len_pcs] <;> omega) | (have hb' := hb; simp only [CN] at hb'; simp only [LS, len_pcs]; omega)))) ?_
        refine PG.opg1 _ _ _ _ _ rfl rfl rfl rfl rfl rfl (fun hb => (by rintro _ rfl; exact o_ixn_MZ (0 : Int) k (gdT hb) (gdT hb) Try.underlying67 (sz_of Ty.inf2) (by omega) (by omega))) ?_
        refine PG.opg1 _ _ _ _ _ rfl rfl rfl rfl rfl rfl (fun hb => (by rintro _ rfl; exact o_load_adr (gdT hb) Try.underlying2 rfl rfl)) ?_
        refine PG.opg1 _ _ _ _ _ rfl rfl rfl rfl rfl rfl (fun hb => (by rintro _ rfl; exact o_leI (gdT hb) (gdT hb))) ?_
        refine PG.op _ rfl rfl rfl (by rintro _ rfl; exact o_and _ _ rfl rfl rfl) ?_
        refine PG.nil ⟨by kernel_rfl, rfl, (h13_ _ ?_)⟩
        refine WC.cond _ rfl (fun c5 => ?_) (fun c5 => ?_)
        ·
          have p5 := c5
          try simp only [CN] at p5
          refine WC.skip (h12_ _ ?_)
          refine WC.block ?_
          refine WC.region ?_
          refine RG.op _ _ rfl rfl (o_move (.rd _ _) rfl) ?_
          refine RG.op _ _ rfl rfl (o_dropL (l := A) (f := pc) 1 pc_len rfl rfl Try.underlying22 (sz_of Ty.inf36) rfl (dw_pos c5)) ?_
          refine RG.op _ _ rfl rfl (o_assign (.rd _ _) rfl) ?_
          refine RG.nil (Exists.intro (A.drop 1) ⟨⟨by rw [List.length_drop]; omega, by rw [← dw_step c5]; exact hA2⟩, (by have := dw_pos c5; rw [List.length_drop]; omega), ?_⟩)
          exact .mk' ⟨⟨rfl, .rd _ _⟩, trivial⟩ (by repeat (first | with_reducible exact same_refl _ _ | with_reducible refine same_updO (by with_unfolding_all exact rfl) ?_ | with_reducible refine same_updN ?_ | with_reducible refine same_updL (by with_unfolding_all exact rfl) ?_ | with_reducible refine same_forget (by with_unfolding_all exact rfl) ?_)) (rfl) (by repeat (first | exact trivial | refine And.intro (Nat.le_refl _) ?_ | refine And.intro trivial ?_ | refine And.intro (by show _ ≤ _; (first | omega | (simp only [LS, len_pcs] <;> omega))) ?_)) (by repeat (first | exact trivial | refine And.intro (one_ok (.own _ _ _ _ _ (Nat.le_refl _))) ?_ | refine And.intro (okp (by repeat (first | exact pu_pcs _ | exact pu_bytes _ | exact pu_nil | exact pu_vs rfl | exact pu_map (fun _ => .v _) _ | exact pu_vals _ | refine pu_app ?_ ?_ | refine pu_cons (by exact pu_of rfl) ?_))) ?_))
        ·
          have p5 := c5
          try simp only [CN] at p5
          have hAe : A = stS a T (k + 1) := (dw_stop c5).symm.trans hA2
          refine WC.exit (h9_ _ ?_)
          refine WC.seq fun Fh14_ h14_ => ?_
          refine WC.block ?_
          refine WC.loopU [6, 38, 39, 40, 41, 42, 43, 44, 45, 46, 47, 48, 49, 50, 51, 52, 53, 54] (fun (B : List Sp) => [(6, rdP B)]) (fun (B : List Sp) => [(1, some ⟨[ow 2 (J k).length 2], 22, false, 0⟩), (2, tb 36 (J k).length ((J k).flatMap pc))]) (fun (B : List Sp) => B.length ≤ b.length ∧ B.dropWhile (goneB (T.getD k 0)) = stS b T (k + 1)) (fun (B : List Sp) => B.length) (stS b T k) ⟨hlb, rfl⟩ ?lpa15_ ?lpb16_
          case lpa15_ =>
            exact .mk' ⟨⟨rfl, .rd _ _⟩, trivial⟩ (same_refl _ _) (rfl) (by repeat (first | exact trivial | refine And.intro (Nat.le_refl _) ?_ | refine And.intro trivial ?_ | refine And.intro (by show _ ≤ _; (first | omega | (simp only [LS, len_pcs] <;> omega))) ?_)) (by repeat (first | exact trivial | refine And.intro (one_ok (.own _ _ _ _ _ (Nat.le_refl _))) ?_ | refine And.intro (okp (by repeat (first | exact pu_pcs _ | exact pu_bytes _ | exact pu_nil | exact pu_vs rfl | exact pu_map (fun _ => .v _) _ | exact pu_vals _ | refine pu_app ?_ ?_ | refine pu_cons (by exact pu_of rfl) ?_))) ?_))
          case lpb16_ =>
            rintro B hI
            have hB1 := hI.1
            have hB2 := hI.2
            refine WC.seq fun Fh17_ h17_ => ?_
            refine WC.seq fun Fh18_ h18_ => ?_
            refine WC.drawn1 (by kernel_rfl) ?_
            refine PG.op _ rfl rfl rfl (by rintro _ rfl; exact o_move (.rd _ _) rfl) ?_
            refine PG.op _ rfl rfl rfl (by rintro _ rfl; exact o_len_rd rfl Try.underlying22) ?_
            refine PG.op _ rfl rfl rfl (by rintro _ rfl; exact o_gtI rfl rfl) ?_
            refine PG.op _ rfl rfl rfl (by rintro _ rfl; exact o_move (.v _) rfl) ?_
            refine PG.opg1 _ _ _ _ _ rfl rfl rfl rfl rfl rfl (fun hb => (by rintro _ rfl; exact o_move (.rd _ _) rfl)) ?_
            refine PG.opg1 _ _ _ _ _ rfl rfl rfl rfl rfl rfl (fun hb => (by rintro _ rfl; exact o_ixn_LZ (l := B) (f := pc) (0, 0) 0 pc_len rfl (gdT hb) rfl Try.underlying22 (sz_of Ty.inf36) rfl (by have hb' := hb; simp only [CN] at hb'; omega))) ?_
            refine PG.opg1 _ _ _ _ _ rfl rfl rfl rfl rfl rfl (fun hb => (by rintro _ rfl; exact o_fld_adr (gdT hb) Try.underlying36 rfl (sz_of Ty.inf2) (by decide))) ?_
            refine PG.opg1 _ _ _ _ _ rfl rfl rfl rfl rfl rfl (fun hb => (by rintro _ rfl; exact o_load_adr (gdT hb) Try.underlying2 rfl rfl)) ?_
            refine PG.opg1 _ _ _ _ _ rfl rfl rfl rfl rfl rfl (fun hb => (by rintro _ rfl; exact o_move (.rd _ _) rfl)) ?_
            refine PG.opg1 _ _ _ _ _ rfl rfl rfl rfl rfl rfl (fun hb => (by rintro _ rfl; exact o_move (.v _) rfl)) ?_
            refine PG.opg1 _ _ _ _ _ rfl rfl rfl rfl rfl rfl (fun hb => (by rintro _ rfl; exact o_sub (gdT hb) rfl (by first | omega | exact ubyte _ | (have hb' := hb; simp only [CN] at hb'; omega) | (simp only [LS, len_pcs] <;> omega) | (have hb' := hb; simp only [CN] at hb'; simp only [LS, len_pcs]; omega)) (by first | omega | exact ubyte _ | (have hb' := hb; simp only [CN] at hb'; omega) | (simp only [LS, len_pcs] <;> omega) | (have hb' := hb; simp only [CN] at hb'; simp only [LS, len_pcs]; omega)))) ?_
            refine PG.opg1 _ _ _ _ _ rfl rfl rfl rfl rfl rfl (fun hb => (by rintro _ rfl; exact o_ixn_MZ (0 : Int) k (gdT hb) (gdT hb) Try.underlying67 (sz_of Ty.inf2) (by omega) (by omega))) ?_
            refine PG.opg1 _ _ _ _ _ rfl rfl rfl rfl rfl rfl (fun hb => (by rintro _ rfl; exact o_load_adr (gdT hb) Try.underlying2 rfl rfl)) ?_
            refine PG.opg1 _ _ _ _ _ rfl rfl rfl rfl rfl rfl (fun hb => (by rintro _ rfl; exact o_leI (gdT hb) (gdT hb))) ?_
            refine PG.op _ rfl rfl rfl (by rintro _ rfl; exact o_and _ _ rfl rfl rfl) ?_
            refine PG.nil ⟨by kernel_rfl, rfl, (h18_ _ ?_)⟩
            refine WC.cond _ rfl (fun c7 => ?_) (fun c7 => ?_)
            ·
              have p7 := c7
              try simp only [CN] at p7
              refine WC.skip (h17_ _ ?_)
              refine WC.block ?_
              refine WC.region ?_
              refine RG.op _ _ rfl rfl (o_move (.rd _ _) rfl) ?_
              refine RG.op _ _ rfl rfl (o_dropL (l := B) (f := pc) 1 pc_len rfl rfl Try.underlying22 (sz_of Ty.inf36) rfl (dw_pos c7)) ?_
              refine RG.op _ _ rfl rfl (o_assign (.rd _ _) rfl) ?_
              refine RG.nil (Exists.intro (B.drop 1) ⟨⟨by rw [List.length_drop]; omega, by rw [← dw_step c7]; exact hB2⟩, (by have := dw_pos c7; rw [List.length_drop]; omega), ?_⟩)
              exact .mk' ⟨⟨rfl, .rd _ _⟩, trivial⟩ (by repeat (first | with_reducible exact same_refl _ _ | with_reducible refine same_updO (by with_unfolding_all exact rfl) ?_ | with_reducible refine same_updN ?_ | with_reducible refine same_updL (by with_unfolding_all exact rfl) ?_ | with_reducible refine same_forget (by with_unfolding_all exact rfl) ?_)) (rfl) (by repeat (first | exact trivial | refine And.intro (Nat.le_refl _) ?_ | refine And.intro trivial ?_ | refine And.intro (by show _ ≤ _; (first | omega | (simp only [LS, len_pcs] <;> omega))) ?_)) (by repeat (first | exact trivial | refine And.intro (one_ok (.own _ _ _ _ _ (Nat.le_refl _))) ?_ | refine And.intro (okp (by repeat (first | exact pu_pcs _ | exact pu_bytes _ | exact pu_nil | exact pu_vs rfl | exact pu_map (fun _ => .v _) _ | exact pu_vals _ | refine pu_app ?_ ?_ | refine pu_cons (by exact pu_of rfl) ?_))) ?_))
            ·
              have p7 := c7
              try simp only [CN] at p7
              have hBe : B = stS b T (k + 1) := (dw_stop c7).symm.trans hB2
              have hyk := hy_ k hk1
              refine WC.exit (h14_ _ ?_)
              refine WC.seq fun Fh19_ h19_ => ?_
              refine WC.drawn2 (by kernel_rfl) ?_
              refine PG.op _ rfl rfl rfl (fun _ _ => o_move (.rd _ _) rfl) ?_
              refine PG.op _ rfl rfl rfl (fun _ _ => o_move (.v _) rfl) ?_
              refine PG.op _ rfl rfl rfl (fun _ _ => o_sub rfl rfl (by first | omega | exact ubyte _ | (simp only [LS, len_pcs] <;> omega)) (by first | omega | exact ubyte _ | (simp only [LS, len_pcs] <;> omega))) ?_
              refine PG.op _ rfl rfl rfl (fun _ _ => o_ixn_MZ (0 : Int) k rfl rfl Try.underlying67 (sz_of Ty.inf2) (by omega) (by omega)) ?_
              refine PG.op _ rfl rfl rfl (fun _ _ => o_load_adr rfl Try.underlying2 rfl rfl) ?_
              refine PG.op _ rfl rfl rfl (fun _ _ => o_move (.rd _ _) rfl) ?_
              refine PG.op _ rfl rfl rfl (fun _ _ => o_move (.v _) rfl) ?_
              refine PG.op _ rfl rfl rfl (fun _ _ => o_ixn_MZ (0 : Int) (k + 1) rfl rfl Try.underlying67 (sz_of Ty.inf2) (by omega) (by omega)) ?_
              refine PG.op _ rfl rfl rfl (fun _ _ => o_load_adr rfl Try.underlying2 rfl rfl) ?_
              refine PG.op _ rfl rfl rfl (fun _ _ => o_build (cs := [(.v _), (.v _)]) Try.underlying36 Ty.inf36 (Ty.pl36 Try.underlying36) rfl) ?_
              refine PG.op _ rfl rfl rfl (fun _ _ => o_build (cs := [_, _, Bo false, Bo false]) Try.underlying73 Ty.inf73 (Ty.pl73 Try.underlying73) rfl) ?_
              refine PG.opm _ _ rfl rfl rfl (o_alloc (z_of Ty.inf73) rfl) ?_
              refine PG.opm _ _ rfl rfl rfl (o_store (d := (.agg [_, _, _, _])) rfl rfl rfl rfl (sz_of Ty.inf73) (Nat.le_of_ble_eq_true rfl) rfl) ?_
              refine PG.nil ⟨by kernel_rfl, trivial, (h19_ _ ?_)⟩
              refine WC.seq fun Fh20_ h20_ => ?_
              refine WC.drawn2 (by kernel_rfl) ?_
              refine PG.op _ rfl rfl rfl (fun _ _ => o_move (.rd _ _) rfl) ?_
              refine PG.op _ rfl rfl rfl (fun _ _ => o_len_rd rfl Try.underlying22) ?_
              refine PG.op _ rfl rfl rfl (fun _ _ => o_gtI rfl rfl) ?_
              refine PG.op _ rfl rfl rfl (fun _ _ => o_move (.v _) rfl) ?_
              refine PG.opg1 _ _ _ _ _ rfl rfl rfl rfl rfl rfl (fun hb => (fun _ _ => o_move (.rd _ _) rfl)) ?_
              refine PG.opg1 _ _ _ _ _ rfl rfl rfl rfl rfl rfl (fun hb => (fun _ _ => o_ixn_LZ (l := A) (f := pc) (0, 0) 0 pc_len rfl (gdT hb) rfl Try.underlying22 (sz_of Ty.inf36) rfl (by have hb' := hb; simp only [CN] at hb'; omega))) ?_
              refine PG.opg1 _ _ _ _ _ rfl rfl rfl rfl rfl rfl (fun hb => (fun _ _ => o_fld_adr (gdT hb) Try.underlying36 rfl (sz_of Ty.inf2) (by decide))) ?_
              refine PG.opg1 _ _ _ _ _ rfl rfl rfl rfl rfl rfl (fun hb => (fun _ _ => o_load_adr (gdT hb) Try.underlying2 rfl rfl)) ?_
              refine PG.opg1 _ _ _ _ _ rfl rfl rfl rfl rfl rfl (fun hb => (fun _ _ => o_move (.rd _ _) rfl)) ?_
              refine PG.opg1 _ _ _ _ _ rfl rfl rfl rfl rfl rfl (fun hb => (fun _ _ => o_move (.v _) rfl)) ?_
              refine PG.opg1 _ _ _ _ _ rfl rfl rfl rfl rfl rfl (fun hb => (fun _ _ => o_sub (gdT hb) rfl (by first | omega | exact ubyte _ | (have hb' := hb; simp only [CN] at hb'; omega) | (simp only [LS, len_pcs] <;> omega) | (have hb' := hb; simp only [CN] at hb'; simp only [LS, len_pcs]; omega)) (by first | omega | exact ubyte _ | (have hb' := hb; simp only [CN] at hb'; omega) | (simp only [LS, len_pcs] <;> omega) | (have hb' := hb; simp only [CN] at hb'; simp only [LS, len_pcs]; omega)))) ?_
              refine PG.opg1 _ _ _ _ _ rfl rfl rfl rfl rfl rfl (fun hb => (fun _ _ => o_ixn_MZ (0 : Int) k (gdT hb) (gdT hb) Try.underlying67 (sz_of Ty.inf2) (by omega) (by omega))) ?_
              refine PG.opg1 _ _ _ _ _ rfl rfl rfl rfl rfl rfl (fun hb => (fun _ _ => o_load_adr (gdT hb) Try.underlying2 rfl rfl)) ?_
              refine PG.opg1 _ _ _ _ _ rfl rfl rfl rfl rfl rfl (fun hb => (fun _ _ => o_leI (gdT hb) (gdT hb))) ?_
              refine PG.op _ rfl rfl rfl (fun _ _ => o_and _ _ rfl rfl rfl) ?_
              refine PG.op _ rfl rfl rfl (fun _ _ => o_fld_ptr rfl Try.underlying73 rfl (sz_of Ty.inf4) (by decide)) ?_
              refine PG.opm _ _ rfl rfl rfl (o_store (d := (.v _)) rfl rfl rfl rfl (sz_of Ty.inf4) (Nat.le_of_ble_eq_true rfl) rfl) ?_
              refine PG.nil ⟨by kernel_rfl, trivial, (h20_ _ ?_)⟩
              refine WC.seq fun Fh21_ h21_ => ?_
              refine WC.drawn2 (by kernel_rfl) ?_
              refine PG.op _ rfl rfl rfl (fun _ _ => o_move (.rd _ _) rfl) ?_
              refine PG.op _ rfl rfl rfl (fun _ _ => o_len_rd rfl Try.underlying22) ?_
              refine PG.op _ rfl rfl rfl (fun _ _ => o_gtI rfl rfl) ?_
              refine PG.op _ rfl rfl rfl (fun _ _ => o_move (.v _) rfl) ?_
              refine PG.opg1 _ _ _ _ _ rfl rfl rfl rfl rfl rfl (fun hb => (fun _ _ => o_move (.rd _ _) rfl)) ?_
              refine PG.opg1 _ _ _ _ _ rfl rfl rfl rfl rfl rfl (fun hb => (fun _ _ => o_ixn_LZ (l := B) (f := pc) (0, 0) 0 pc_len rfl (gdT hb) rfl Try.underlying22 (sz_of Ty.inf36) rfl (by have hb' := hb; simp only [CN] at hb'; omega))) ?_
              refine PG.opg1 _ _ _ _ _ rfl rfl rfl rfl rfl rfl (fun hb => (fun _ _ => o_fld_adr (gdT hb) Try.underlying36 rfl (sz_of Ty.inf2) (by decide))) ?_
              refine PG.opg1 _ _ _ _ _ rfl rfl rfl rfl rfl rfl (fun hb => (fun _ _ => o_load_adr (gdT hb) Try.underlying2 rfl rfl)) ?_
              refine PG.opg1 _ _ _ _ _ rfl rfl rfl rfl rfl rfl (fun hb => (fun _ _ => o_move (.rd _ _) rfl)) ?_
              refine PG.opg1 _ _ _ _ _ rfl rfl rfl rfl rfl rfl (fun hb => (fun _ _ => o_move (.v _) rfl)) ?_
              refine PG.opg1 _ _ _ _ _ rfl rfl rfl rfl rfl rfl (fun hb => (fun _ _ => o_sub (gdT hb) rfl (by first | omega | exact ubyte _ | (have hb' := hb; simp only [CN] at hb'; omega) | (simp only [LS, len_pcs] <;> omega) | (have hb' := hb; simp only [CN] at hb'; simp only [LS, len_pcs]; omega)) (by first | omega | exact ubyte _ | (have hb' := hb; simp only [CN] at hb'; omega) | (simp only [LS, len_pcs] <;> omega) | (have hb' := hb; simp only [CN] at hb'; simp only [LS, len_pcs]; omega)))) ?_
              refine PG.opg1 _ _ _ _ _ rfl rfl rfl rfl rfl rfl (fun hb => (fun _ _ => o_ixn_MZ (0 : Int) k (gdT hb) (gdT hb) Try.underlying67 (sz_of Ty.inf2) (by omega) (by omega))) ?_
              refine PG.opg1 _ _ _ _ _ rfl rfl rfl rfl rfl rfl (fun hb => (fun _ _ => o_load_adr (gdT hb) Try.underlying2 rfl rfl)) ?_
              refine PG.opg1 _ _ _ _ _ rfl rfl rfl rfl rfl rfl (fun hb => (fun _ _ => o_leI (gdT hb) (gdT hb))) ?_
              refine PG.op _ rfl rfl rfl (fun _ _ => o_and _ _ rfl rfl rfl) ?_
              refine PG.op _ rfl rfl rfl (fun _ _ => o_fld_ptr rfl Try.underlying73 rfl (sz_of Ty.inf4) (by decide)) ?_
              refine PG.opm _ _ rfl rfl rfl (o_store (d := (.v _)) rfl rfl rfl rfl (sz_of Ty.inf4) (Nat.le_of_ble_eq_true rfl) rfl) ?_
              refine PG.nil ⟨by kernel_rfl, trivial, (h21_ _ ?_)⟩
              refine WC.seq fun Fh22_ h22_ => ?_
              have hyk' : YieldAt Try.prog l_ r_ (bothH J 0) β0_ K0_ (bothH J k) (bothH J (k + 1)) [.agg [I64 (T.getD k 0), I64 (T.getD (k + 1) 0), Bo (hdB A (T.getD k 0)), Bo (hdB B (T.getD k 0))]] := by rw [hAe, hBe]; exact hyk
              refine WC.region ?_
              refine RG.op _ _ rfl rfl (o_move (.v _) rfl) ?_
              refine RG.op _ _ rfl rfl (o_load_ptr_L (xs := [I64 (T.getD k 0), I64 (T.getD (k + 1) 0), Bo (hdB A (T.getD k 0)), Bo (hdB B (T.getD k 0))]) rfl Try.underlying73 rfl (sz_of Ty.inf73) rfl rfl rfl rfl) ?_
              refine RG.opM _ _ rfl rfl (x_yieldF (ds := [.agg [I64 (T.getD k 0), I64 (T.getD (k + 1) 0), Bo (hdB A (T.getD k 0)), Bo (hdB B (T.getD k 0))]]) (bothH J k) (bothH J (k + 1)) [_] rfl hC_ (by rw [har_]; rfl) ⟨.inl rfl, trivial⟩ (by exact pua rfl) rfl rfl (bothH_ok _ _) (bothH_ok _ _) hyk') ?_
              refine RG.op _ _ rfl rfl (o_not rfl) ?_
              refine RG.nil (h22_ _ ?_)
              refine WC.cond _ rfl (fun c12 => ?_) (fun c12 => ?_)
              ·
                have p12 := c12
                try simp only [CN] at p12
                cases c12
              ·
                have p12 := c12
                try simp only [CN] at p12
                refine WC.skip (h8_ _ ?_)
                refine WC.region ?_
                refine RG.op _ _ rfl rfl (o_move (.v _) rfl) ?_
                refine RG.op _ _ rfl rfl (o_add rfl rfl (by first | omega | exact ubyte _ | (simp only [LS, len_pcs] <;> omega)) (by first | omega | exact ubyte _ | (simp only [LS, len_pcs] <;> omega))) ?_
                refine RG.op _ _ rfl rfl (o_assign (.v _) rfl) ?_
                refine RG.nil (Exists.intro (k + 1) ⟨by first | omega | (simp only [LS, len_pcs] <;> omega), by first | omega | (simp only [LS, len_pcs] <;> omega), ?_⟩)
                exact .mk' ⟨⟨rfl, .v _⟩, ⟨congrArg rdP hAe, .rd _ _⟩, ⟨congrArg rdP hBe, .rd _ _⟩, trivial⟩ (by repeat (first | with_reducible exact same_refl _ _ | with_reducible refine same_updO (by with_unfolding_all exact rfl) ?_ | with_reducible refine same_updN ?_ | with_reducible refine same_updL (by with_unfolding_all exact rfl) ?_ | with_reducible refine same_forget (by with_unfolding_all exact rfl) ?_)) (rfl) (by repeat (first | exact trivial | refine And.intro (Nat.le_refl _) ?_ | refine And.intro trivial ?_ | refine And.intro (by show _ ≤ _; (first | omega | (simp only [LS, len_pcs] <;> omega))) ?_)) (by repeat (first | exact trivial | refine And.intro (one_ok (.own _ _ _ _ _ (Nat.le_refl _))) ?_ | refine And.intro (okp (by repeat (first | exact pu_pcs _ | exact pu_bytes _ | exact pu_nil | exact pu_vs rfl | exact pu_map (fun _ => .v _) _ | exact pu_vals _ | refine pu_app ?_ ?_ | refine pu_cons (by exact pu_of rfl) ?_))) ?_))
    ·
      have p3 := c3
      try simp only [CN] at p3
      refine WC.exit ?_
      (simp only [thenQ, blkQ, noGo, if_true]; refine endM.mkN 3 (bothH J k) rfl rfl (bothH_ok J k) ?_; exact EndsM.r0 rfl ⟨⟨_, rfl⟩, by have e : k = T.length - 1 := (by omega); rw [← e]⟩)
end Go.Proofs.Ytoekdjdgeleelaa
namespace Go.Proofs.Ytoekdjdgeleelaa
open Go.RowKit Go.DL

/-- The set behind k pieces. -/
def bothJ (g : Bool → Bool → Bool) (a b : List Sp) (T : List Int) : Nat → List Sp
  | 0 => []
  | k + 1 => if g (hdB (stS a T (k + 1)) (T.getD k 0)) (hdB (stS b T (k + 1)) (T.getD k 0)) = true then joinM (bothJ g a b T k) (T.getD k 0, T.getD (k + 1) 0) else bothJ g a b T k
theorem bothJ_mono (g : Bool → Bool → Bool) (a b : List Sp) (T : List Int) (k : Nat) : (bothJ g a b T k).length ≤ (bothJ g a b T (k + 1)).length := by
  rw [bothJ]
  split
  · exact joinM_ge _ _
  · exact Nat.le_refl _
theorem bothJ_len (g : Bool → Bool → Bool) (a b : List Sp) (T : List Int) : ∀ k, (bothJ g a b T k).length ≤ k
  | 0 => Nat.le_refl _
  | k + 1 => by
    have h := bothJ_len g a b T k
    rw [bothJ]
    split
    · have := joinM_len (bothJ g a b T k) (T.getD k 0, T.getD (k + 1) 0)
      omega
    · omega
def TM (a b : List Sp) : List Int := endsL [ofM a, ofM b]
def bothM (g : Bool → Bool → Bool) (a b : List Sp) : List Sp := bothJ g (ofM a) (ofM b) (TM a b) ((TM a b).length - 1)
theorem ofM_len (l : List Sp) : (ofM l).length ≤ l.length := by
  unfold ofM
  exact Nat.le_trans (foldJ_len _) (by rw [sortP_len]; exact List.length_filter_le _ _)
theorem TM_len (a b : List Sp) : (TM a b).length ≤ (a.length + b.length) * 2 := by
  have h1 := ofM_len a
  have h2 := ofM_len b
  unfold TM endsL
  have h3 := cpM_len (sortZ (flat2 [ofM a, ofM b].flatten))
  have e : [ofM a, ofM b].flatten.length = (ofM a).length + (ofM b).length := by simp
  rw [sortZ_len, flat2_len, e] at h3
  omega
theorem bothH_eq {J : Nat → List Sp} {k n : Nat} {cs : List D} (h1 : n = (J k).length) (h2 : cs = (J k).flatMap pc) : ([none, some ⟨[ow 2 n 2], 22, false, 0⟩, tb 36 n cs] : Heap) = bothH J k := by subst h1 h2; rfl
set_option maxHeartbeats 4000000 in
theorem pieces_c (a b : List Sp) : Fun Try.prog 68 [rdP a, rdP b] (· = .fn (.func 84) [.adr [rdP a], .adr [rdP b]]) := by
  refine Fun.of Try.func68 rfl (Nat.le_of_ble_eq_true rfl) fun C => ?_
  refine WC.seq fun Fh1_ h1_ => ?_
  refine WC.region ?_
  refine RG.op _ _ rfl rfl (o_box (d := .rd _ _) rfl rfl) ?_
  refine RG.op _ _ rfl rfl (o_box (d := .rd _ _) rfl rfl) ?_
  refine RG.op _ _ rfl rfl (o_assign (.v _) rfl) ?_
  refine RG.nil (h1_ _ ?_)
  refine WC.seq fun Fh2_ h2_ => ?_
  refine WC.frz 0 _ [(2, .adr [rdP a])] rfl (by repeat (first | exact pu_pcs _ | exact pu_bytes _ | exact pu_nil | exact pu_vs rfl | exact pu_map (fun _ => .v _) _ | exact pu_vals _ | refine pu_app ?_ ?_ | refine pu_cons (by exact pu_of rfl) ?_)) ⟨.ptr 0, trivial⟩ ?_
  refine WC.frz 1 _ [(3, .adr [rdP b])] rfl (by repeat (first | exact pu_pcs _ | exact pu_bytes _ | exact pu_nil | exact pu_vs rfl | exact pu_map (fun _ => .v _) _ | exact pu_vals _ | refine pu_app ?_ ?_ | refine pu_cons (by exact pu_of rfl) ?_)) ⟨.ptr 0, trivial⟩ ?_
  refine WC.region ?_
  refine RG.op _ _ rfl rfl (o_makeFunc) ?_
  refine RG.op _ _ rfl rfl (o_assign (.fn _ _) rfl) ?_
  refine RG.nil (h2_ _ ?_)
  refine WC.ret ?_
  exact Ends.r1 rfl (.tmp _ (.fn _ _) rfl) (.pure' (by exact pu_of rfl)) (rfl)
set_option maxHeartbeats 4000000 in
theorem both_c {F : FuncId} (g : Bool → Bool → Bool) (hF : DL.Callee Try.prog F) (hg : ∀ x y, Fun Try.prog F [Bo x, Bo y] (· = Bo (g x y))) (a b : List Sp) (ha : a.length ≤ 34359738368) (hb : b.length ≤ 34359738368) : Fun Try.prog 48 [rdP a, rdP b, .v (.func (.func F) #[] #[])] (· = rdP (bothM g a b)) := by
  have hla := ofM_len a
  have hlb := ofM_len b
  have hT := TM_len a b
  have hit : Iter Try.prog 84 [.adr [rdP (ofM a)], .adr [rdP (ofM b)]] 1 (bothH (bothJ g (ofM a) (ofM b) (TM a b))) ((TM a b).length - 1) (fun k => [.agg (pcD (ofM a) (ofM b) (TM a b) k)]) :=
    pieces1_c (ofM a) (ofM b) _ (TM a b) (by omega) (by omega) (by omega) (bothJ_mono _ _ _ _) (ends_c [ofM a, ofM b] (by simp) (by simp; omega) (by simp; omega))
  refine Fun.ofR Try.func48 rfl (Nat.le_of_ble_eq_true rfl) fun C hrd => ?_
  refine WC.seq fun Fh1_ h1_ => ?_
  refine WC.region ?_
  refine RG.op _ _ rfl rfl (o_box (d := .v _) rfl rfl) ?_
  refine RG.op _ _ rfl rfl (o_assign (.v _) rfl) ?_
  refine RG.nil (h1_ _ ?_)
  refine WC.seq fun Fh2_ h2_ => ?_
  refine WC.frz 0 _ [(5, .adr [.v (.func (.func F) #[] #[])])] rfl (by repeat (first | exact pu_pcs _ | exact pu_bytes _ | exact pu_nil | exact pu_vs rfl | exact pu_map (fun _ => .v _) _ | exact pu_vals _ | refine pu_app ?_ ?_ | refine pu_cons (by exact pu_of rfl) ?_)) ⟨.ptr 0, trivial⟩ ?_
  refine WC.region ?_
  refine RG.op _ _ rfl rfl (o_alloc (z_of Ty.inf22) rfl) ?_
  refine RG.nil (h2_ _ ?_)
  refine WC.seq fun Fh3_ h3_ => ?_
  refine WC.seq fun Fh4_ h4_ => ?_
  refine WC.nilCell 1 0 _ 36 2 rfl rfl ?_
  refine WC.region ?_
  refine RG.op _ _ rfl rfl (o_move (.rd _ _) rfl) ?_
  refine RG.op _ _ rfl rfl (o_call Ty.cal16 (Of_c a (by omega)) ⟨.inl rfl, trivial⟩ (by exact pua rfl)) ?_
  refine RG.op _ _ rfl rfl (o_move (.rd _ _) rfl) ?_
  refine RG.op _ _ rfl rfl (o_call Ty.cal16 (Of_c b (by omega)) ⟨.inl rfl, trivial⟩ (by exact pua rfl)) ?_
  refine RG.op _ _ rfl rfl (o_call Ty.cal68 (pieces_c _ _) ⟨.inl rfl, .inl rfl, trivial⟩ (by exact pua rfl)) ?_
  refine RG.nil (h4_ _ ?_)
  refine WC.block ?_
  refine WC.rangeFunc (f := 84) (cs := [.adr [rdP (ofM a)], .adr [rdP (ofM b)]]) (ar := 1) (fun (k : Nat) => bothH (bothJ g (ofM a) (ofM b) (TM a b)) k) ((TM a b).length - 1) (fun (k : Nat) => [.agg (pcD (ofM a) (ofM b) (TM a b) k)]) hrd (.inl rfl) Ty.cal84 (rfl) (fun k _ => VLe.le ⟨trivial, Nat.le_refl _, Nat.zero_le _, trivial⟩) (fun _ _ => Nat.le_refl 3) rfl (by decide) (hit) (fun k hk C_ => ?_) ?_
  ·
    have hj1 := bothJ_len g (ofM a) (ofM b) (TM a b) k
    have hj2 := bothJ_mono g (ofM a) (ofM b) (TM a b) k
    refine WC.region ?_
    refine RG.op _ _ rfl rfl (o_alloc (z_of Ty.inf73) rfl) ?_
    refine RG.op _ _ rfl rfl (o_store (d := (.agg [_, _, _, _])) rfl rfl rfl rfl (sz_of Ty.inf73) (Nat.le_of_ble_eq_true rfl) rfl) ?_
    refine RG.nil (fun C2_ => ?_)
    refine WC.block ?_
    refine WC.seq fun Fh5_ h5_ => ?_
    refine WC.region ?_
    refine RG.op _ _ rfl rfl (o_load_adr rfl Try.underlying59 rfl rfl) ?_
    refine RG.op _ _ rfl rfl (o_fld_ptr rfl Try.underlying73 rfl (sz_of Ty.inf4) (by decide)) ?_
    refine RG.op _ _ rfl rfl (o_load_ptr rfl Try.underlying4 rfl rfl rfl rfl) ?_
    refine RG.op _ _ rfl rfl (o_fld_ptr rfl Try.underlying73 rfl (sz_of Ty.inf4) (by decide)) ?_
    refine RG.op _ _ rfl rfl (o_load_ptr rfl Try.underlying4 rfl rfl rfl rfl) ?_
    refine RG.op _ _ rfl rfl (o_callV (ds := [Bo _, Bo _]) (cs := []) (.inr ⟨rfl, rfl⟩) hF (hg _ _) ⟨.inl rfl, .inl rfl, trivial⟩ (by exact pua rfl)) ?_
    refine RG.nil (h5_ _ ?_)
    refine WC.cond _ rfl (fun c4 => ?_) (fun c4 => ?_)
    ·
      have p4 := c4
      try simp only [CN] at p4
      have e5 : bothJ g (ofM a) (ofM b) (TM a b) (k + 1) = joinM (bothJ g (ofM a) (ofM b) (TM a b) k) ((TM a b).getD k 0, (TM a b).getD (k + 1) 0) := by rw [bothJ, if_pos c4]
      have hge := joinM_ge (bothJ g (ofM a) (ofM b) (TM a b) k) ((TM a b).getD k 0, (TM a b).getD (k + 1) 0)
      refine WC.region ?_
      refine RG.op _ _ rfl rfl (o_load_ptr (d := ow 2 (bothJ g (ofM a) (ofM b) (TM a b) k).length 2) rfl Try.underlying22 rfl rfl rfl rfl) ?_
      refine RG.op _ _ rfl rfl (o_fld_ptr rfl Try.underlying73 rfl (sz_of Ty.inf36) (by decide)) ?_
      refine RG.op _ _ rfl rfl (o_load_ptr_L (xs := [_, _]) rfl Try.underlying36 rfl (sz_of Ty.inf36) rfl rfl rfl rfl) ?_
      refine RG.op _ _ rfl rfl (OpX.d (x_call Ty.cal46 (FunM.frame (ds := [_, _]) [2] [_] [_] [] (join_c _ _ _ (by first | omega | exact ubyte _ | (simp only [LS, len_pcs] <;> omega))) (by decide) ⟨rfl, trivial⟩ ⟨.pure (by repeat (first | exact pu_pcs _ | exact pu_bytes _ | exact pu_nil | exact pu_vs rfl | exact pu_map (fun _ => .v _) _ | exact pu_vals _ | refine pu_app ?_ ?_ | refine pu_cons (by exact pu_of rfl) ?_)), trivial⟩ ⟨.own _ _ _ _ _ rfl, .pure _ (by exact pu_of rfl), trivial⟩ rfl ⟨.pure (by repeat (first | exact pu_pcs _ | exact pu_bytes _ | exact pu_nil | exact pu_vs rfl | exact pu_map (fun _ => .v _) _ | exact pu_vals _ | refine pu_app ?_ ?_ | refine pu_cons (by exact pu_of rfl) ?_)), trivial⟩ (.own _ _ _ _ _ rfl) rfl) ⟨.inl rfl, .inl rfl, trivial⟩) (VLe.le (by repeat (first | exact trivial | refine And.intro (Nat.le_refl _) ?_ | refine And.intro trivial ?_ | refine And.intro (by show _ ≤ _; (first | omega | (simp only [LS, len_pcs] <;> omega))) ?_)))) ?_
      refine RG.op _ _ rfl rfl (o_store (d := (.own _ _ _ _ _)) rfl rfl rfl rfl (sz_of Ty.inf22) (Nat.le_of_ble_eq_true rfl) rfl) ?_
      refine RG.nil ⟨rfl, ?_, ?_⟩
      · exact bothH_eq (by rw [e5]) (by rw [e5])
      · exact (bothH_ok _ _)
    ·
      have p4 := c4
      try simp only [CN] at p4
      have e5 : bothJ g (ofM a) (ofM b) (TM a b) (k + 1) = bothJ g (ofM a) (ofM b) (TM a b) k := by rw [bothJ, if_neg (by rw [c4]; exact Bool.false_ne_true)]
      refine WC.skip ⟨rfl, ?_, ?_⟩
      · exact bothH_eq (by rw [e5]) (by rw [e5])
      · exact (bothH_ok _ _)
  ·
    skip
    refine (h3_ _ ?_)
    refine WC.seq fun Fh6_ h6_ => ?_
    refine WC.region ?_
    refine RG.op _ _ rfl rfl (o_load_ptr (d := ow 2 (bothJ g (ofM a) (ofM b) (TM a b) ((TM a b).length - 1)).length 2) rfl Try.underlying22 rfl rfl rfl rfl) ?_
    refine RG.op _ _ rfl rfl (o_assign (.own _ _ _ _ _) rfl) ?_
    refine RG.nil (h6_ _ ?_)
    refine WC.ret ?_
    exact Ends.r1 rfl (.tmp _ (.own _ _ _ _ _) rfl) (.tb rfl (by repeat (first | exact pu_pcs _ | exact pu_bytes _ | exact pu_nil | exact pu_vs rfl | exact pu_map (fun _ => .v _) _ | exact pu_vals _ | refine pu_app ?_ ?_ | refine pu_cons (by exact pu_of rfl) ?_))) (rfl)
end Go.Proofs.Ytoekdjdgeleelaa
namespace Go.Proofs.Ytoekdjdgeleelaa
open Go.RowKit Go.DL

set_option maxHeartbeats 4000000 in
theorem or1_c (x y : Bool) : Fun Try.prog 49 [Bo x, Bo y] (· = Bo (x || y)) := by
  refine Fun.of Try.func49 rfl (Nat.le_of_ble_eq_true rfl) fun C => ?_
  refine WC.seq fun Fh1_ h1_ => ?_
  refine WC.region ?_
  refine RG.op _ _ rfl rfl (o_assign (.v _) rfl) ?_
  refine RG.nil (h1_ _ ?_)
  refine WC.seq fun Fh2_ h2_ => ?_
  refine WC.region ?_
  refine RG.op _ _ rfl rfl (o_move (.v _) rfl) ?_
  refine RG.op _ _ rfl rfl (o_move (.v _) rfl) ?_
  refine RG.opg1 _ _ _ _ _ rfl rfl rfl rfl rfl (fun hb => o_move (.v _) rfl) ?_
  refine RG.op _ _ rfl rfl (o_or _ _ rfl rfl rfl) ?_
  refine RG.op _ _ rfl rfl (o_assign (.v _) rfl) ?_
  refine RG.nil (h2_ _ ?_)
  refine WC.ret ?_
  exact Ends.r1 rfl (.tmp _ (.v _) rfl) (.v _) (rfl)
set_option maxHeartbeats 4000000 in
theorem and1_c (x y : Bool) : Fun Try.prog 50 [Bo x, Bo y] (· = Bo (x && y)) := by
  refine Fun.of Try.func50 rfl (Nat.le_of_ble_eq_true rfl) fun C => ?_
  refine WC.seq fun Fh1_ h1_ => ?_
  refine WC.region ?_
  refine RG.op _ _ rfl rfl (o_assign (.v _) rfl) ?_
  refine RG.nil (h1_ _ ?_)
  refine WC.seq fun Fh2_ h2_ => ?_
  refine WC.region ?_
  refine RG.op _ _ rfl rfl (o_move (.v _) rfl) ?_
  refine RG.op _ _ rfl rfl (o_move (.v _) rfl) ?_
  refine RG.opg1 _ _ _ _ _ rfl rfl rfl rfl rfl (fun hb => o_move (.v _) rfl) ?_
  refine RG.op _ _ rfl rfl (o_and _ _ rfl rfl rfl) ?_
  refine RG.op _ _ rfl rfl (o_assign (.v _) rfl) ?_
  refine RG.nil (h2_ _ ?_)
  refine WC.ret ?_
  exact Ends.r1 rfl (.tmp _ (.v _) rfl) (.v _) (rfl)
set_option maxHeartbeats 4000000 in
theorem minus1_c (x y : Bool) : Fun Try.prog 51 [Bo x, Bo y] (· = Bo (x && !y)) := by
  refine Fun.of Try.func51 rfl (Nat.le_of_ble_eq_true rfl) fun C => ?_
  refine WC.seq fun Fh1_ h1_ => ?_
  refine WC.region ?_
  refine RG.op _ _ rfl rfl (o_assign (.v _) rfl) ?_
  refine RG.nil (h1_ _ ?_)
  refine WC.seq fun Fh2_ h2_ => ?_
  refine WC.region ?_
  refine RG.op _ _ rfl rfl (o_move (.v _) rfl) ?_
  refine RG.op _ _ rfl rfl (o_move (.v _) rfl) ?_
  refine RG.opg1 _ _ _ _ _ rfl rfl rfl rfl rfl (fun hb => o_move (.v _) rfl) ?_
  refine RG.opg1 _ _ _ _ _ rfl rfl rfl rfl rfl (fun hb => o_not (gdT hb)) ?_
  refine RG.op _ _ rfl rfl (o_and _ _ rfl rfl rfl) ?_
  refine RG.op _ _ rfl rfl (o_assign (.v _) rfl) ?_
  refine RG.nil (h2_ _ ?_)
  refine WC.ret ?_
  exact Ends.r1 rfl (.tmp _ (.v _) rfl) (.v _) (rfl)
def orG (x y : Bool) : Bool := x || y
def andG (x y : Bool) : Bool := x && y
def minG (x y : Bool) : Bool := x && !y
set_option maxHeartbeats 4000000 in
theorem Or_c (a b : List Sp) (ha : a.length ≤ 34359738368) (hb : b.length ≤ 34359738368) : Fun Try.prog 18 [rdP a, rdP b] (· = rdP (bothM orG a b)) := by
  refine Fun.of Try.func18 rfl (Nat.le_of_ble_eq_true rfl) fun C => ?_
  refine WC.seq fun Fh1_ h1_ => ?_
  refine WC.region ?_
  refine RG.op _ _ rfl rfl (o_assign (.v _) rfl) ?_
  refine RG.nil (h1_ _ ?_)
  refine WC.seq fun Fh2_ h2_ => ?_
  refine WC.region ?_
  refine RG.op _ _ rfl rfl (o_move (.rd _ _) rfl) ?_
  refine RG.op _ _ rfl rfl (o_move (.rd _ _) rfl) ?_
  refine RG.op _ _ rfl rfl (o_call (ds := [rdP a, rdP b, .v (.func (.func 49) #[] #[])]) Ty.cal48 (both_c orG Ty.cal49 or1_c a b ha hb) ⟨.inl rfl, .inl rfl, .inl rfl, trivial⟩ (by exact pua rfl)) ?_
  refine RG.op _ _ rfl rfl (o_assign (.rd _ _) rfl) ?_
  refine RG.nil (h2_ _ ?_)
  refine WC.ret ?_
  exact Ends.r1 rfl (.tmp _ (.rd _ _) rfl) (.rd _ _) (rfl)
set_option maxHeartbeats 4000000 in
theorem And_c (a b : List Sp) (ha : a.length ≤ 34359738368) (hb : b.length ≤ 34359738368) : Fun Try.prog 20 [rdP a, rdP b] (· = rdP (bothM andG a b)) := by
  refine Fun.of Try.func20 rfl (Nat.le_of_ble_eq_true rfl) fun C => ?_
  refine WC.seq fun Fh1_ h1_ => ?_
  refine WC.region ?_
  refine RG.op _ _ rfl rfl (o_assign (.v _) rfl) ?_
  refine RG.nil (h1_ _ ?_)
  refine WC.seq fun Fh2_ h2_ => ?_
  refine WC.region ?_
  refine RG.op _ _ rfl rfl (o_move (.rd _ _) rfl) ?_
  refine RG.op _ _ rfl rfl (o_move (.rd _ _) rfl) ?_
  refine RG.op _ _ rfl rfl (o_call (ds := [rdP a, rdP b, .v (.func (.func 50) #[] #[])]) Ty.cal48 (both_c andG Ty.cal50 and1_c a b ha hb) ⟨.inl rfl, .inl rfl, .inl rfl, trivial⟩ (by exact pua rfl)) ?_
  refine RG.op _ _ rfl rfl (o_assign (.rd _ _) rfl) ?_
  refine RG.nil (h2_ _ ?_)
  refine WC.ret ?_
  exact Ends.r1 rfl (.tmp _ (.rd _ _) rfl) (.rd _ _) (rfl)
set_option maxHeartbeats 4000000 in
theorem Minus_c (a b : List Sp) (ha : a.length ≤ 34359738368) (hb : b.length ≤ 34359738368) : Fun Try.prog 22 [rdP a, rdP b] (· = rdP (bothM minG a b)) := by
  refine Fun.of Try.func22 rfl (Nat.le_of_ble_eq_true rfl) fun C => ?_
  refine WC.seq fun Fh1_ h1_ => ?_
  refine WC.region ?_
  refine RG.op _ _ rfl rfl (o_assign (.v _) rfl) ?_
  refine RG.nil (h1_ _ ?_)
  refine WC.seq fun Fh2_ h2_ => ?_
  refine WC.region ?_
  refine RG.op _ _ rfl rfl (o_move (.rd _ _) rfl) ?_
  refine RG.op _ _ rfl rfl (o_move (.rd _ _) rfl) ?_
  refine RG.op _ _ rfl rfl (o_call (ds := [rdP a, rdP b, .v (.func (.func 51) #[] #[])]) Ty.cal48 (both_c minG Ty.cal51 minus1_c a b ha hb) ⟨.inl rfl, .inl rfl, .inl rfl, trivial⟩ (by exact pua rfl)) ?_
  refine RG.op _ _ rfl rfl (o_assign (.rd _ _) rfl) ?_
  refine RG.nil (h2_ _ ?_)
  refine WC.ret ?_
  exact Ends.r1 rfl (.tmp _ (.rd _ _) rfl) (.rd _ _) (rfl)
set_option maxHeartbeats 4000000 in
theorem slEqual_c (a b : List Sp) (ha : a.length ≤ 1099511627776) (hb : b.length ≤ 1099511627776) : Fun Try.prog 54 [rdP a, rdP b] (· = Bo (decide (a = b))) := by
  refine Fun.of Try.func54 rfl (Nat.le_of_ble_eq_true rfl) fun C => ?_
  refine WC.seq fun Fh1_ h1_ => ?_
  refine WC.region ?_
  refine RG.op _ _ rfl rfl (o_assign (.v _) rfl) ?_
  refine RG.nil (h1_ _ ?_)
  refine WC.seq fun Fh2_ h2_ => ?_
  refine WC.seq fun Fh3_ h3_ => ?_
  refine WC.region ?_
  refine RG.op _ _ rfl rfl (o_move (.rd _ _) rfl) ?_
  refine RG.op _ _ rfl rfl (o_len_rd rfl Try.underlying22) ?_
  refine RG.op _ _ rfl rfl (o_move (.rd _ _) rfl) ?_
  refine RG.op _ _ rfl rfl (o_len_rd rfl Try.underlying22) ?_
  refine RG.op _ _ rfl rfl (o_neI rfl rfl) ?_
  refine RG.nil (h3_ _ ?_)
  refine WC.cond _ rfl (fun c1 => ?_) (fun c1 => ?_)
  ·
    have p1 := c1
    try simp only [CN] at p1
    refine WC.seq fun Fh4_ h4_ => ?_
    refine WC.region ?_
    refine RG.op _ _ rfl rfl (o_assign (.v _) rfl) ?_
    refine RG.nil (h4_ _ ?_)
    refine WC.ret ?_
    exact Ends.r1 rfl (.tmp _ (.v _) rfl) (.v _) (congrArg Bo (by rw [decide_eq_false]; intro e; subst e; omega))
  ·
    have p1 := c1
    try simp only [CN] at p1
    have hlen : a.length = b.length := by omega
    refine WC.skip (h2_ _ ?_)
    refine WC.seq fun Fh5_ h5_ => ?_
    refine WC.seq fun Fh6_ h6_ => ?_
    refine WC.region ?_
    refine RG.op _ _ rfl rfl (o_move (.rd _ _) rfl) ?_
    refine RG.op _ _ rfl rfl (o_len_rd rfl Try.underlying22) ?_
    refine RG.op _ _ rfl rfl (o_move (.v _) rfl) ?_
    refine RG.nil (h6_ _ ?_)
    refine WC.block ?_
    refine WC.loopU [4, 5, 13, 14, 15, 16, 17, 18, 19, 20, 21, 22, 23, 24, 25] (fun (k : Nat) => [(13, I64 ((k : Nat) : Int))]) (fun (k : Nat) => []) (fun (k : Nat) => k ≤ a.length ∧ a.take k = b.take k) (fun (k : Nat) => a.length - k) 0 ⟨Nat.zero_le _, rfl⟩ ?lpa7_ ?lpb8_
    case lpa7_ =>
      exact .mk' ⟨⟨rfl, .v _⟩, trivial⟩ (same_refl _ _) (rfl) (by repeat (first | exact trivial | refine And.intro (Nat.le_refl _) ?_ | refine And.intro trivial ?_ | refine And.intro (by show _ ≤ _; (first | omega | (simp only [LS, len_pcs] <;> omega))) ?_)) (by repeat (first | exact trivial | refine And.intro (one_ok (.own _ _ _ _ _ (Nat.le_refl _))) ?_ | refine And.intro (okp (by repeat (first | exact pu_pcs _ | exact pu_bytes _ | exact pu_nil | exact pu_vs rfl | exact pu_map (fun _ => .v _) _ | exact pu_vals _ | refine pu_app ?_ ?_ | refine pu_cons (by exact pu_of rfl) ?_))) ?_))
    case lpb8_ =>
      rintro k hI
      refine WC.seq fun Fh9_ h9_ => ?_
      refine WC.region ?_
      refine RG.op _ _ rfl rfl (o_ltI rfl rfl) ?_
      refine RG.nil (h9_ _ ?_)
      refine WC.seq fun Fh10_ h10_ => ?_
      refine WC.cond _ rfl (fun c4 => ?_) (fun c4 => ?_)
      ·
        have p4 := c4
        try simp only [CN] at p4
        have hka : k < a.length := by omega
        have hkb : k < b.length := by omega
        refine WC.skip (h10_ _ ?_)
        refine WC.seq fun Fh11_ h11_ => ?_
        refine WC.block ?_
        refine WC.seq fun Fh12_ h12_ => ?_
        refine WC.region ?_
        refine RG.op _ _ rfl rfl (o_move (.v _) rfl) ?_
        refine RG.op _ _ rfl rfl (o_assign (.v _) rfl) ?_
        refine RG.nil (h12_ _ ?_)
        refine WC.seq fun Fh13_ h13_ => ?_
        refine WC.drawn1 (by kernel_rfl) ?_
        refine PG.op _ rfl rfl rfl (by rintro _ rfl; exact o_move (.rd _ _) rfl) ?_
        refine PG.op _ rfl rfl rfl (by rintro _ rfl; exact o_move (.v _) rfl) ?_
        refine PG.op _ rfl rfl rfl (by rintro _ rfl; exact o_ixn_L (l := a) (f := pc) k pc_len rfl rfl rfl Try.underlying22 (sz_of Ty.inf36) rfl hka) ?_
        refine PG.op _ rfl rfl rfl (by rintro _ rfl; exact o_load_adr_L (xs := [_, _]) rfl Try.underlying36 rfl (sz_of Ty.inf36) rfl) ?_
        refine PG.op _ rfl rfl rfl (by rintro _ rfl; exact o_move (.rd _ _) rfl) ?_
        refine PG.op _ rfl rfl rfl (by rintro _ rfl; exact o_move (.v _) rfl) ?_
        refine PG.op _ rfl rfl rfl (by rintro _ rfl; exact o_ixn_L (l := b) (f := pc) k pc_len rfl rfl rfl Try.underlying22 (sz_of Ty.inf36) rfl hkb) ?_
        refine PG.op _ rfl rfl rfl (by rintro _ rfl; exact o_load_adr_L (xs := [_, _]) rfl Try.underlying36 rfl (sz_of Ty.inf36) rfl) ?_
        refine PG.op _ rfl rfl rfl (by rintro _ rfl; exact o_neS Ty.fs36 rfl rfl rfl) ?_
        refine PG.nil ⟨by kernel_rfl, rfl, (h13_ _ ?_)⟩
        refine WC.cond _ rfl (fun c6 => ?_) (fun c6 => ?_)
        ·
          have p6 := c6
          try simp only [CN] at p6
          refine WC.seq fun Fh14_ h14_ => ?_
          refine WC.region ?_
          refine RG.op _ _ rfl rfl (o_assign (.v _) rfl) ?_
          refine RG.nil (h14_ _ ?_)
          refine WC.ret ?_
          exact Ends.r1 rfl (.tmp _ (.v _) rfl) (.v _) (congrArg Bo (sp_stop hka hkb c6).symm)
        ·
          have p6 := c6
          try simp only [CN] at p6
          refine WC.skip (h11_ _ ?_)
          refine WC.region ?_
          refine RG.op _ _ rfl rfl (o_add rfl rfl (by first | omega | exact ubyte _ | (simp only [LS, len_pcs] <;> omega)) (by first | omega | exact ubyte _ | (simp only [LS, len_pcs] <;> omega))) ?_
          refine RG.op _ _ rfl rfl (o_move (.v _) rfl) ?_
          refine RG.nil (Exists.intro (k + 1) ⟨⟨by omega, sp_step hka hkb hI.2 c6⟩, by first | omega | (simp only [LS, len_pcs] <;> omega), ?_⟩)
          exact .mk' ⟨⟨rfl, .v _⟩, trivial⟩ (by repeat (first | with_reducible exact same_refl _ _ | with_reducible refine same_updO (by with_unfolding_all exact rfl) ?_ | with_reducible refine same_updN ?_ | with_reducible refine same_updL (by with_unfolding_all exact rfl) ?_ | with_reducible refine same_forget (by with_unfolding_all exact rfl) ?_)) (rfl) (by repeat (first | exact trivial | refine And.intro (Nat.le_refl _) ?_ | refine And.intro trivial ?_ | refine And.intro (by show _ ≤ _; (first | omega | (simp only [LS, len_pcs] <;> omega))) ?_)) (by repeat (first | exact trivial | refine And.intro (one_ok (.own _ _ _ _ _ (Nat.le_refl _))) ?_ | refine And.intro (okp (by repeat (first | exact pu_pcs _ | exact pu_bytes _ | exact pu_nil | exact pu_vs rfl | exact pu_map (fun _ => .v _) _ | exact pu_vals _ | refine pu_app ?_ ?_ | refine pu_cons (by exact pu_of rfl) ?_))) ?_))
      ·
        have p4 := c4
        try simp only [CN] at p4
        refine WC.exit (h5_ _ ?_)
        refine WC.seq fun Fh15_ h15_ => ?_
        refine WC.region ?_
        refine RG.op _ _ rfl rfl (o_assign (.v _) rfl) ?_
        refine RG.nil (h15_ _ ?_)
        refine WC.ret ?_
        exact Ends.r1 rfl (.tmp _ (.v _) rfl) (.v _) (congrArg Bo (by have h := hI.2; rw [List.take_of_length_le (by omega), List.take_of_length_le (by omega)] at h; rw [h]; simp))
set_option maxHeartbeats 4000000 in
theorem Same_c (a b : List Sp) (ha : a.length ≤ 1099511627776) (hb : b.length ≤ 1099511627776) : Fun Try.prog 26 [rdP a, rdP b] (· = Bo (decide (ofM a = ofM b))) := by
  refine Fun.of Try.func26 rfl (Nat.le_of_ble_eq_true rfl) fun C => ?_
  refine WC.seq fun Fh1_ h1_ => ?_
  refine WC.region ?_
  refine RG.op _ _ rfl rfl (o_assign (.v _) rfl) ?_
  refine RG.nil (h1_ _ ?_)
  refine WC.seq fun Fh2_ h2_ => ?_
  refine WC.region ?_
  refine RG.op _ _ rfl rfl (o_move (.rd _ _) rfl) ?_
  refine RG.op _ _ rfl rfl (o_call Ty.cal16 (Of_c a ha) ⟨.inl rfl, trivial⟩ (by exact pua rfl)) ?_
  refine RG.op _ _ rfl rfl (o_move (.rd _ _) rfl) ?_
  refine RG.op _ _ rfl rfl (o_call Ty.cal16 (Of_c b hb) ⟨.inl rfl, trivial⟩ (by exact pua rfl)) ?_
  refine RG.op _ _ rfl rfl (o_call Ty.cal54 (slEqual_c _ _ (Nat.le_trans (ofM_len _) (by assumption)) (Nat.le_trans (ofM_len _) (by assumption))) ⟨.inl rfl, .inl rfl, trivial⟩ (by exact pua rfl)) ?_
  refine RG.op _ _ rfl rfl (o_assign (.v _) rfl) ?_
  refine RG.nil (h2_ _ ?_)
  refine WC.ret ?_
  exact Ends.r1 rfl (.tmp _ (.v _) rfl) (.v _) (rfl)
/-- What is wrong with a set's spans, made whole. -/
def wE (n : Int) (e : Sp → Int) (S : List Sp) : Int := if widthB n = true then (if S.all (fun p => decide (e p = 0)) = true then 0 else 7) else 1
def wM (n : Int) (e : Sp → Int) (z : Sp → Sp) (S : List Sp) : List Sp := if wE n e S = 0 then ofM (S.map z) else []
theorem all_step {S : List Sp} {k : Nat} {e : Sp → Int} (h : k < S.length) (ha : (S.take k).all (fun p => decide (e p = 0)) = true) (hk : e S[k] = 0) : (S.take (k + 1)).all (fun p => decide (e p = 0)) = true := by
  rw [List.take_succ_eq_append_getElem h, List.all_append, ha]; simp [hk]
theorem all_stop {S : List Sp} {k : Nat} {e : Sp → Int} (h : k < S.length) (hk : ¬ e S[k] = 0) : S.all (fun p => decide (e p = 0)) = false := by
  rw [List.all_eq_false]; exact ⟨S[k], List.getElem_mem h, by simp [hk]⟩
theorem map_step {S : List Sp} {k : Nat} {z : Sp → Sp} (h : k < S.length) : (S.take (k + 1)).map z = (S.take k).map z ++ [z S[k]] := by
  rw [List.take_succ_eq_append_getElem h, List.map_append]; rfl
set_option maxHeartbeats 4000000 in
theorem pwhole_c {F : FuncId} (n : Int) (e : Sp → Int) (z : Sp → Sp) (hF : DL.Callee Try.prog F) (hf : ∀ a b, Fun Try.prog F [SP a b, I64 n] (· = .tup [SP (z (a, b)).1 (z (a, b)).2, I64 (e (a, b))])) (he : widthB n = true → ∀ p, e p = 0 ∨ e p = 7) (l : List Sp) (hl : l.length ≤ 1099511627776) :
    Fun Try.prog 36 [rdP l, I64 n, .v (.func (.func F) #[] #[])] (· = .tup [rdP (wM n e z (ofM l)), I64 (wE n e (ofM l))]) := by
  have hS := ofM_len l
  refine Fun.of Try.func36 rfl (Nat.le_of_ble_eq_true rfl) fun C => ?_
  refine WC.seq fun Fh1_ h1_ => ?_
  refine WC.region ?_
  refine RG.op _ _ rfl rfl (o_assign (.v _) rfl) ?_
  refine RG.op _ _ rfl rfl (o_assign (.v _) rfl) ?_
  refine RG.nil (h1_ _ ?_)
  refine WC.seq fun Fh2_ h2_ => ?_
  refine WC.seq fun Fh3_ h3_ => ?_
  refine WC.region ?_
  refine RG.op _ _ rfl rfl (o_move (.v _) rfl) ?_
  refine RG.op _ _ rfl rfl (o_call Ty.cal30 (width_c _) ⟨.inl rfl, trivial⟩ (by exact pua rfl)) ?_
  refine RG.op _ _ rfl rfl (o_not rfl) ?_
  refine RG.nil (h3_ _ ?_)
  refine WC.cond _ rfl (fun c1 => ?_) (fun c1 => ?_)
  ·
    have p1 := c1
    try simp only [CN] at p1
    have hw0 : wE n e (ofM l) = 1 := by unfold wE; rw [if_neg (by simpa using c1)]
    refine WC.seq fun Fh4_ h4_ => ?_
    refine WC.region ?_
    refine RG.op _ _ rfl rfl (o_assign (.v _) rfl) ?_
    refine RG.op _ _ rfl rfl (o_assign (.v _) rfl) ?_
    refine RG.nil (h4_ _ ?_)
    refine WC.ret ?_
    exact Ends.r2 rfl (.tmp _ (.v _) rfl) (.tmp _ (.v _) rfl) .nilr (.v _) ((by rw [show wM n e z (ofM l) = [] from by unfold wM; rw [if_neg (by rw [hw0]; decide)], hw0]; rfl))
  ·
    have p1 := c1
    try simp only [CN] at p1
    have hwt : widthB n = true := by simpa using c1
    refine WC.skip (h2_ _ ?_)
    refine WC.seq fun Fh5_ h5_ => ?_
    refine WC.region ?_
    refine RG.op _ _ rfl rfl (o_nil 36 2) ?_
    refine RG.nil (h5_ _ ?_)
    refine WC.seq fun Fh6_ h6_ => ?_
    refine WC.seq fun Fh7_ h7_ => ?_
    refine WC.region ?_
    refine RG.op _ _ rfl rfl (o_move (.rd _ _) rfl) ?_
    refine RG.op _ _ rfl rfl (o_call Ty.cal16 (Of_c l (by omega)) ⟨.inl rfl, trivial⟩ (by exact pua rfl)) ?_
    refine RG.op _ _ rfl rfl (o_len_rd rfl Try.underlying22) ?_
    refine RG.op _ _ rfl rfl (o_move (.v _) rfl) ?_
    refine RG.nil (h7_ _ ?_)
    refine WC.block ?_
    refine WC.loopU [6, 7, 8, 10, 11, 12, 19, 20, 21, 22, 23, 24, 25, 26, 27, 28, 29, 30, 31, 32, 33, 34, 35, 36, 37] (fun (k : Nat) => [(19, I64 ((k : Nat) : Int)), (8, ow 0 (((ofM l).take k).map z).length 2)]) (fun (k : Nat) => [(0, tb 36 (((ofM l).take k).map z).length ((((ofM l).take k).map z).flatMap pc))]) (fun (k : Nat) => k ≤ (ofM l).length ∧ ((ofM l).take k).all (fun p => decide (e p = 0)) = true) (fun (k : Nat) => (ofM l).length - k) 0 ⟨Nat.zero_le _, rfl⟩ ?lpa8_ ?lpb9_
    case lpa8_ =>
      exact .mk' ⟨⟨rfl, .v _⟩, ⟨rfl, (by first | exact .own _ _ _ _ _ (Nat.le_refl _) | exact .ptr _ _ _ (Nat.le_refl _) | exact .omp _ _ (Nat.le_refl _))⟩, trivial⟩ (same_refl _ _) (rfl) (by repeat (first | exact trivial | refine And.intro (Nat.le_refl _) ?_ | refine And.intro trivial ?_ | refine And.intro (by show _ ≤ _; (first | omega | (simp only [LS, len_pcs] <;> omega))) ?_)) (by repeat (first | exact trivial | refine And.intro (one_ok (.own _ _ _ _ _ (Nat.le_refl _))) ?_ | refine And.intro (okp (by repeat (first | exact pu_pcs _ | exact pu_bytes _ | exact pu_nil | exact pu_vs rfl | exact pu_map (fun _ => .v _) _ | exact pu_vals _ | refine pu_app ?_ ?_ | refine pu_cons (by exact pu_of rfl) ?_))) ?_))
    case lpb9_ =>
      rintro k hI
      have hI1 := hI.1
      have hI2 := hI.2
      have hml : (((ofM l).take k).map z).length = k := by rw [List.length_map, List.length_take]; omega
      refine WC.seq fun Fh10_ h10_ => ?_
      refine WC.region ?_
      refine RG.op _ _ rfl rfl (o_ltI rfl rfl) ?_
      refine RG.nil (h10_ _ ?_)
      refine WC.seq fun Fh11_ h11_ => ?_
      refine WC.cond _ rfl (fun c5 => ?_) (fun c5 => ?_)
      ·
        have p5 := c5
        try simp only [CN] at p5
        have hkl : k < (ofM l).length := by omega
        refine WC.skip (h11_ _ ?_)
        refine WC.seq fun Fh12_ h12_ => ?_
        refine WC.block ?_
        refine WC.seq fun Fh13_ h13_ => ?_
        refine WC.region ?_
        refine RG.op _ _ rfl rfl (o_ixn_L (l := ofM l) (f := pc) k pc_len rfl rfl rfl Try.underlying22 (sz_of Ty.inf36) rfl hkl) ?_
        refine RG.op _ _ rfl rfl (o_load_adr_L (xs := [_, _]) rfl Try.underlying36 rfl (sz_of Ty.inf36) rfl) ?_
        refine RG.op _ _ rfl rfl (o_alloc (z_of Ty.inf36) rfl) ?_
        refine RG.op _ _ rfl rfl (o_store (d := (.agg [_, _])) rfl rfl rfl rfl (sz_of Ty.inf36) (Nat.le_of_ble_eq_true rfl) rfl) ?_
        refine RG.nil (h13_ _ ?_)
        refine WC.seq fun Fh14_ h14_ => ?_
        refine WC.region ?_
        refine RG.op _ _ rfl rfl (o_move (.v _) rfl) ?_
        refine RG.op _ _ rfl rfl (o_load_ptr_L (xs := [_, _]) rfl Try.underlying36 rfl (sz_of Ty.inf36) rfl rfl rfl rfl) ?_
        refine RG.op _ _ rfl rfl (o_move (.v _) rfl) ?_
        refine RG.op _ _ rfl rfl (o_callV (ds := [SP ((ofM l)[k]'hkl).1 ((ofM l)[k]'hkl).2, I64 n]) (cs := []) (.inr ⟨rfl, rfl⟩) hF (hf _ _) ⟨.inl rfl, .inl rfl, trivial⟩ (by exact pua rfl)) ?_
        refine RG.op _ _ rfl rfl (o_move (.tup _) rfl) ?_
        refine RG.op _ _ rfl rfl (o_extract rfl rfl) ?_
        refine RG.op _ _ rfl rfl (o_extract rfl rfl) ?_
        refine RG.op _ _ rfl rfl (o_alloc (z_of Ty.inf36) rfl) ?_
        refine RG.op _ _ rfl rfl (o_store (d := (.agg [_, _])) rfl rfl rfl rfl (sz_of Ty.inf36) (Nat.le_of_ble_eq_true rfl) rfl) ?_
        refine RG.op _ _ rfl rfl (o_assign (.v _) rfl) ?_
        refine RG.nil (h14_ _ ?_)
        refine WC.seq fun Fh15_ h15_ => ?_
        refine WC.seq fun Fh16_ h16_ => ?_
        refine WC.region ?_
        refine RG.op _ _ rfl rfl (o_move (.v _) rfl) ?_
        refine RG.op _ _ rfl rfl (o_neI rfl rfl) ?_
        refine RG.nil (h16_ _ ?_)
        refine WC.cond _ rfl (fun c8 => ?_) (fun c8 => ?_)
        ·
          have p8 := c8
          try simp only [CN] at p8
          have hw7 : wE n e (ofM l) = 7 := by unfold wE; rw [if_pos hwt, if_neg (by rw [all_stop hkl p8]; decide)]
          have he7 : e (ofM l)[k] = 7 := (he hwt _).resolve_left p8
          refine WC.seq fun Fh17_ h17_ => ?_
          refine WC.region ?_
          refine RG.op _ _ rfl rfl (o_move (.v _) rfl) ?_
          refine RG.op _ _ rfl rfl (o_assign (.v _) rfl) ?_
          refine RG.op _ _ rfl rfl (o_assign (.v _) rfl) ?_
          refine RG.nil (h17_ _ ?_)
          refine WC.ret ?_
          exact Ends.r2 rfl (.tmp _ (.v _) rfl) (.tmp _ (.v _) rfl) .nilr (.v _) ((by rw [show wM n e z (ofM l) = [] from by unfold wM; rw [if_neg (by rw [hw7]; decide)], hw7, show e (((ofM l)[k]'hkl).1, ((ofM l)[k]'hkl).2) = 7 from he7]; rfl))
        ·
          have p8 := c8
          try simp only [CN] at p8
          refine WC.skip (h15_ _ ?_)
          refine WC.region ?_
          refine RG.op _ _ rfl rfl (o_move (.own _ _ _ _ _) rfl) ?_
          refine RG.op _ _ rfl rfl (o_load_ptr_L (xs := [_, _]) rfl Try.underlying36 rfl (sz_of Ty.inf36) rfl rfl rfl rfl) ?_
          refine RG.op _ _ rfl rfl (o_litP (cs := [_, _]) Try.underlying22 Ty.inf36 rfl rfl rfl rfl (by repeat (first | exact pu_pcs _ | exact pu_bytes _ | exact pu_nil | exact pu_vs rfl | exact pu_map (fun _ => .v _) _ | exact pu_vals _ | refine pu_app ?_ ?_ | refine pu_cons (by exact pu_of rfl) ?_))) ?_
          refine RG.op _ _ rfl rfl (o_appT (Elem.of Try.underlying22 Ty.inf36 rfl (by decide)) rfl rfl rfl (by first | omega | exact ubyte _ | (simp only [LS, len_pcs] <;> omega)) (by first | omega | exact ubyte _ | (simp only [LS, len_pcs] <;> omega)) (by repeat (first | exact bytesD_one _ | exact one_nil | exact one_map (fun _ => rfl) _ | exact one_vals _ | exact one_pcs _ | refine one_app ?_ ?_ | refine one_cons rfl ?_)) (by first | omega | exact ubyte _ | (simp only [LS, len_pcs] <;> omega)) (by first | omega | exact ubyte _ | (simp only [LS, len_pcs] <;> omega))) ?_
          refine RG.op _ _ rfl rfl (o_assign (.own _ _ _ _ _) rfl) ?_
          refine RG.nil (h12_ _ ?_)
          refine WC.region ?_
          refine RG.op _ _ rfl rfl (o_add rfl rfl (by first | omega | exact ubyte _ | (simp only [LS, len_pcs] <;> omega)) (by first | omega | exact ubyte _ | (simp only [LS, len_pcs] <;> omega))) ?_
          refine RG.op _ _ rfl rfl (o_move (.v _) rfl) ?_
          refine RG.nil (Exists.intro (k + 1) ⟨⟨by omega, all_step hkl hI2 p8⟩, by first | omega | (simp only [LS, len_pcs] <;> omega), ?_⟩)
          exact .mk' ⟨⟨rfl, .v _⟩, ⟨ow_eq (by rw [map_step hkl, List.length_append]; rfl), (by first | exact .own _ _ _ _ _ (Nat.le_refl _) | exact .ptr _ _ _ (Nat.le_refl _) | exact .omp _ _ (Nat.le_refl _))⟩, trivial⟩ (by repeat (first | with_reducible exact same_refl _ _ | with_reducible refine same_updO (by with_unfolding_all exact rfl) ?_ | with_reducible refine same_updN ?_ | with_reducible refine same_updL (by with_unfolding_all exact rfl) ?_ | with_reducible refine same_forget (by with_unfolding_all exact rfl) ?_)) (congrArg (fun c => [c]) (tb_eq (by rw [map_step hkl, List.length_append]; rfl) (by rw [map_step hkl, List.flatMap_append]; rfl))) (by repeat (first | exact trivial | refine And.intro (Nat.le_refl _) ?_ | refine And.intro trivial ?_ | refine And.intro (by show _ ≤ _; (first | omega | (simp only [LS, len_pcs] <;> omega))) ?_)) (by repeat (first | exact trivial | refine And.intro (one_ok (.own _ _ _ _ _ (Nat.le_refl _))) ?_ | refine And.intro (okp (by repeat (first | exact pu_pcs _ | exact pu_bytes _ | exact pu_nil | exact pu_vs rfl | exact pu_map (fun _ => .v _) _ | exact pu_vals _ | refine pu_app ?_ ?_ | refine pu_cons (by exact pu_of rfl) ?_))) ?_))
      ·
        have p5 := c5
        try simp only [CN] at p5
        refine WC.exit (h6_ _ ?_)
        refine WC.seq fun Fh18_ h18_ => ?_
        have hkl : k = (ofM l).length := by omega
        have hw1 : wE n e (ofM l) = 0 := by unfold wE; rw [List.take_of_length_le (by omega)] at hI2; rw [if_pos hwt, if_pos hI2]
        refine WC.frz 0 _ [(8, rdP (((ofM l).take k).map z))] rfl (by repeat (first | exact pu_pcs _ | exact pu_bytes _ | exact pu_nil | exact pu_vs rfl | exact pu_map (fun _ => .v _) _ | exact pu_vals _ | refine pu_app ?_ ?_ | refine pu_cons (by exact pu_of rfl) ?_)) ⟨.rowE rfl (by first | rfl | omega | (simp; done) | (simp; omega)) (by first | rfl | simp [bytesD]), trivial⟩ ?_
        refine WC.region ?_
        refine RG.op _ _ rfl rfl (o_move (.rd _ _) rfl) ?_
        refine RG.op _ _ rfl rfl (o_call Ty.cal16 (Of_c _ (by omega)) ⟨.inl rfl, trivial⟩ (by exact pua rfl)) ?_
        refine RG.op _ _ rfl rfl (o_assign (.rd _ _) rfl) ?_
        refine RG.op _ _ rfl rfl (o_assign (.v _) rfl) ?_
        refine RG.nil (h18_ _ ?_)
        refine WC.ret ?_
        exact Ends.r2 rfl (.tmp _ (.rd _ _) rfl) (.tmp _ (.v _) rfl) (.rd _ _) (.v _) ((by rw [hw1, show wM n e z (ofM l) = ofM (((ofM l).take k).map z) from by unfold wM; rw [if_pos hw1, List.take_of_length_le (by omega)]]))
end Go.Proofs.Ytoekdjdgeleelaa
namespace Go.Proofs.Ytoekdjdgeleelaa
open Go.RowKit Go.DL

section
variable {P : Program} {C : Ctx} {env : Nat → D} {H : Heap} {dst : Option Nat} {ty t e : TypeId} {pos : String} {after : Array Edge} {gu : Option (Nat × Bool)} {X y : Operand}
/-- A row's end, from k on: nothing, at its very end. -/
def cutD (l : List Int) (k v : Nat) : D := if k < l.length then .own 0 v (0 + k * 1) (l.length - k) 1 else .rd 0 []
theorem o_cutX {l : List Int} {k v : Nat} (hx : ev env X = .own 0 v 0 l.length 1) (hy : ev env y = I64 k) (ht : P.underlying t = some (.slice e)) (hi' : (P.info? e).map (·.size) = some 1) (hk : k ≤ l.length) : OpD P C ⟨dst, .slice t X (some y) none none, ty, pos, after, gu⟩ env H (cutD l k v) H := by
  unfold cutD
  by_cases h : k < l.length
  · rw [if_pos h]
    exact o_cut_own (hi := l.length) hx ⟨_, hy⟩ rfl ht hi' (.inr h) hk (Nat.le_refl _)
  · rw [if_neg h]
    have e : k = l.length := by omega
    exact o_cut_empty (lo := k) hx ⟨_, hy⟩ e ht hi' hk
theorem src_cut {l : List Int} {k v : Nat} (E : Elem P t e 1 8) (hb : H[0]? = some (some ⟨l.map I64, e, true, v⟩)) (hk : k ≤ l.length) : Src P C t t ty e 1 8 H (cutD l k v) (l.length - k) ((l.drop k).map I64) := by
  have h1 : ∀ d ∈ (l.drop k).map I64, oneD d = true := one_map (fun _ => rfl) _
  unfold cutD
  by_cases h : k < l.length
  · rw [if_pos h]
    exact src_own E hb rfl (by simp; omega) (by rw [List.map_drop, show 0 + k * 1 = k by omega, Nat.mul_one, List.take_of_length_le (by simp)]) h1
  · rw [if_neg h]
    have e : k = l.length := by omega
    subst e
    have := src_rd (H := H) (C := C) (ty := ty) (m := 0) (cs' := []) E rfl (by simp)
    simpa using this
end
theorem iv_get {l : List Int} {k : Nat} (h : k < l.length) : (l.map I64)[0 + k * 1]? = some (I64 (l.getD k 0)) := by
  rw [Nat.mul_one, Nat.zero_add, List.getElem?_map, List.getElem?_eq_getElem h, List.getD_eq_getElem?_getD, List.getElem?_eq_getElem h]; rfl
def ltB (n x : Int) : Bool := decide (x < n)
/-- Where a number comes. -/
def atM (l : List Int) (n : Int) : Nat := (l.takeWhile (ltB n)).length
theorem tw_len : ∀ {l : List Int} {n : Int} {k : Nat}, k ≤ l.length → (∀ i, i < k → l.getD i 0 < n) → (decide ((k : Int) < (l.length : Int)) && decide (l.getD k 0 < n)) = false → atM l n = k
  | [], n, k, hk, _, _ => by have : k = 0 := by simpa using hk
                             subst this; rfl
  | x :: l, n, 0, hk, h1, h2 => by
    have : ¬ ltB n x = true := by simpa [ltB] using h2
    unfold atM
    rw [List.takeWhile_cons_of_neg this]; rfl
  | x :: l, n, k + 1, hk, h1, h2 => by
    have h0 : x < n := h1 0 (by omega)
    have : ltB n x = true := by simpa [ltB] using h0
    have ih := tw_len (l := l) (n := n) (k := k) (by simpa using hk) (fun i hi => h1 (i + 1) (by omega)) (by
      simp only [List.length_cons] at h2
      have e : (decide (((k + 1 : Nat) : Int) < ((l.length + 1 : Nat) : Int))) = decide ((k : Int) < (l.length : Int)) := by rw [decide_eq_decide]; omega
      rw [e] at h2
      exact h2)
    unfold atM at *
    rw [List.takeWhile_cons_of_pos this, List.length_cons, ih]
def isM (l : List Int) (n : Int) : Bool := decide ((atM l n : Int) < (l.length : Int)) && decide (l.getD (atM l n) 0 = n)
def putM (l : List Int) (n : Int) : List Int := if isM l n = true then l else l.take (atM l n) ++ n :: l.drop (atM l n)
def putV (l : List Int) (n : Int) (v : Nat) : Nat := if isM l n = true then v else v + 2
theorem atM_le (l : List Int) (n : Int) : atM l n ≤ l.length := (List.takeWhile_sublist _).length_le
theorem putM_len (l : List Int) (n : Int) : (putM l n).length ≤ l.length + 1 ∧ l.length ≤ (putM l n).length := by
  have := atM_le l n
  unfold putM
  split
  · omega
  · rw [List.length_append, List.length_cons, List.length_take, List.length_drop]; omega
theorem pu_ins (l : List Int) (n : Int) (k : Nat) : ∀ c ∈ ((l.map I64).take (k * 1) ++ [I64 n]).take ((k + 1) * 1) ++ (l.drop k).map I64, Pure' c :=
  pu_app (fun c hc => by
    rcases List.mem_append.1 (List.mem_of_mem_take hc) with h | h
    · exact pu_map (fun _ => .v _) _ c (List.mem_of_mem_take h)
    · rw [List.mem_singleton] at h; subst h; exact .v _) (pu_map (fun _ => .v _) _)
theorem ins_eq {l : List Int} {k : Nat} (n : Int) (hk : k ≤ l.length) : ((l.map I64).take (k * 1) ++ [I64 n]).take ((k + 1) * 1) ++ (l.drop k).map I64 = (l.take k ++ n :: l.drop k).map I64 := by
  rw [List.take_of_length_le (by simp; omega), Nat.mul_one, List.map_append, List.map_cons, ← List.map_take, List.append_assoc]; rfl
theorem putV_le (l : List Int) (n : Int) (v : Nat) : v ≤ putV l n v := by unfold putV; split <;> omega
set_option maxHeartbeats 4000000 in
theorem put_c (l : List Int) (n : Int) (v : Nat) (hl : l.length ≤ 1099511627776) : FunM Try.prog 83 [.own 0 v 0 l.length 1, I64 n] [some ⟨l.map I64, 2, true, v⟩] (fun o H' => o = .ret (.own 0 (putV l n v) 0 (putM l n).length 1) ∧ H' = [some ⟨(putM l n).map I64, 2, true, putV l n v⟩]) := by
  refine FunM.of Try.func83 rfl (Nat.le_of_ble_eq_true rfl) fun C => ?_
  refine WC.seq fun Fh1_ h1_ => ?_
  refine WC.region ?_
  refine RG.op _ _ rfl rfl (o_assign (.v _) rfl) ?_
  refine RG.nil (h1_ _ ?_)
  refine WC.seq fun Fh2_ h2_ => ?_
  refine WC.region ?_
  refine RG.op _ _ rfl rfl (o_assign (.v _) rfl) ?_
  refine RG.nil (h2_ _ ?_)
  refine WC.seq fun Fh3_ h3_ => ?_
  refine WC.block ?_
  refine WC.loopU [5, 7, 8, 9, 10, 11, 12, 13, 14, 15, 16, 17, 18, 19, 20] (fun (k : Nat) => [(5, I64 ((k : Nat) : Int))]) (fun (k : Nat) => []) (fun (k : Nat) => k ≤ l.length ∧ ∀ i, i < k → l.getD i 0 < n) (fun (k : Nat) => l.length - k) 0 ⟨Nat.zero_le _, fun i h => absurd h (Nat.not_lt_zero i)⟩ ?lpa4_ ?lpb5_
  case lpa4_ =>
    exact .mk' ⟨⟨rfl, .v _⟩, trivial⟩ (same_refl _ _) (rfl) (by repeat (first | exact trivial | refine And.intro (Nat.le_refl _) ?_ | refine And.intro trivial ?_ | refine And.intro (by show _ ≤ _; (first | omega | (simp only [LS, len_pcs] <;> omega))) ?_)) (by repeat (first | exact trivial | refine And.intro (one_ok (.own _ _ _ _ _ (Nat.le_refl _))) ?_ | refine And.intro (okp (by repeat (first | exact pu_pcs _ | exact pu_ins _ _ _ | exact pu_bytes _ | exact pu_nil | exact pu_vs rfl | exact pu_map (fun _ => .v _) _ | exact pu_vals _ | refine pu_app ?_ ?_ | refine pu_cons (by exact pu_of rfl) ?_))) ?_))
  case lpb5_ =>
    rintro k hI
    have hI1 := hI.1
    have hI2 := hI.2
    refine WC.seq fun Fh6_ h6_ => ?_
    refine WC.seq fun Fh7_ h7_ => ?_
    refine WC.region ?_
    refine RG.op _ _ rfl rfl (o_move (.v _) rfl) ?_
    refine RG.op _ _ rfl rfl (o_move (.own _ _ _ _ _) rfl) ?_
    refine RG.op _ _ rfl rfl (o_len_own rfl Try.underlying67) ?_
    refine RG.op _ _ rfl rfl (o_ltI rfl rfl) ?_
    refine RG.op _ _ rfl rfl (o_move (.v _) rfl) ?_
    refine RG.opg1 _ _ _ _ _ rfl rfl rfl rfl rfl (fun hb => o_move (.own _ _ _ _ _) rfl) ?_
    refine RG.opg1 _ _ _ _ _ rfl rfl rfl rfl rfl (fun hb => o_move (.v _) rfl) ?_
    refine RG.opg1 _ _ _ _ _ rfl rfl rfl rfl rfl (fun hb => o_ixn_own k (gdT hb) (gdT hb) Try.underlying67 (sz_of Ty.inf2) rfl (by have hb' := hb; simp only [CN] at hb'; omega)) ?_
    refine RG.opg1 _ _ _ _ _ rfl rfl rfl rfl rfl (fun hb => o_load_ptr (b := ⟨l.map I64, 2, true, v⟩) (d := I64 (l.getD k 0)) (gdT hb) Try.underlying2 rfl rfl rfl (iv_get (by have hb' := hb; simp only [CN] at hb'; omega))) ?_
    refine RG.opg1 _ _ _ _ _ rfl rfl rfl rfl rfl (fun hb => o_move (.v _) rfl) ?_
    refine RG.opg1 _ _ _ _ _ rfl rfl rfl rfl rfl (fun hb => o_ltI (gdT hb) (gdT hb)) ?_
    refine RG.op _ _ rfl rfl (o_and _ _ rfl rfl rfl) ?_
    refine RG.nil (h7_ _ ?_)
    refine WC.cond _ rfl (fun c2 => ?_) (fun c2 => ?_)
    ·
      have p2 := c2
      try simp only [CN] at p2
      have hkl : k < l.length := by omega
      refine WC.skip (h6_ _ ?_)
      refine WC.block ?_
      refine WC.region ?_
      refine RG.op _ _ rfl rfl (o_move (.v _) rfl) ?_
      refine RG.op _ _ rfl rfl (o_add rfl rfl (by first | omega | exact ubyte _ | (simp only [LS, len_pcs] <;> omega)) (by first | omega | exact ubyte _ | (simp only [LS, len_pcs] <;> omega))) ?_
      refine RG.op _ _ rfl rfl (o_assign (.v _) rfl) ?_
      refine RG.nil (Exists.intro (k + 1) ⟨⟨by omega, fun i hi => by by_cases e : i = k; (subst e; exact p2.2); exact hI2 i (by omega)⟩, by first | omega | (simp only [LS, len_pcs] <;> omega), ?_⟩)
      exact .mk' ⟨⟨rfl, .v _⟩, trivial⟩ (by repeat (first | with_reducible exact same_refl _ _ | with_reducible refine same_updO (by with_unfolding_all exact rfl) ?_ | with_reducible refine same_updN ?_ | with_reducible refine same_updL (by with_unfolding_all exact rfl) ?_ | with_reducible refine same_forget (by with_unfolding_all exact rfl) ?_)) (rfl) (by repeat (first | exact trivial | refine And.intro (Nat.le_refl _) ?_ | refine And.intro trivial ?_ | refine And.intro (by show _ ≤ _; (first | omega | (simp only [LS, len_pcs] <;> omega))) ?_)) (by repeat (first | exact trivial | refine And.intro (one_ok (.own _ _ _ _ _ (Nat.le_refl _))) ?_ | refine And.intro (okp (by repeat (first | exact pu_pcs _ | exact pu_ins _ _ _ | exact pu_bytes _ | exact pu_nil | exact pu_vs rfl | exact pu_map (fun _ => .v _) _ | exact pu_vals _ | refine pu_app ?_ ?_ | refine pu_cons (by exact pu_of rfl) ?_))) ?_))
    ·
      have p2 := c2
      try simp only [CN] at p2
      have hat := tw_len hI1 hI2 c2
      refine WC.exit (h3_ _ ?_)
      refine WC.seq fun Fh8_ h8_ => ?_
      refine WC.seq fun Fh9_ h9_ => ?_
      refine WC.region ?_
      refine RG.op _ _ rfl rfl (o_move (.v _) rfl) ?_
      refine RG.op _ _ rfl rfl (o_move (.own _ _ _ _ _) rfl) ?_
      refine RG.op _ _ rfl rfl (o_len_own rfl Try.underlying67) ?_
      refine RG.op _ _ rfl rfl (o_ltI rfl rfl) ?_
      refine RG.op _ _ rfl rfl (o_move (.v _) rfl) ?_
      refine RG.opg1 _ _ _ _ _ rfl rfl rfl rfl rfl (fun hb => o_move (.own _ _ _ _ _) rfl) ?_
      refine RG.opg1 _ _ _ _ _ rfl rfl rfl rfl rfl (fun hb => o_move (.v _) rfl) ?_
      refine RG.opg1 _ _ _ _ _ rfl rfl rfl rfl rfl (fun hb => o_ixn_own k (gdT hb) (gdT hb) Try.underlying67 (sz_of Ty.inf2) rfl (by have hb' := hb; simp only [CN] at hb'; omega)) ?_
      refine RG.opg1 _ _ _ _ _ rfl rfl rfl rfl rfl (fun hb => o_load_ptr (b := ⟨l.map I64, 2, true, v⟩) (d := I64 (l.getD k 0)) (gdT hb) Try.underlying2 rfl rfl rfl (iv_get (by have hb' := hb; simp only [CN] at hb'; omega))) ?_
      refine RG.opg1 _ _ _ _ _ rfl rfl rfl rfl rfl (fun hb => o_move (.v _) rfl) ?_
      refine RG.opg1 _ _ _ _ _ rfl rfl rfl rfl rfl (fun hb => o_eqI (gdT hb) (gdT hb)) ?_
      refine RG.op _ _ rfl rfl (o_and _ _ rfl rfl rfl) ?_
      refine RG.nil (h9_ _ ?_)
      refine WC.cond _ rfl (fun c4 => ?_) (fun c4 => ?_)
      ·
        have p4 := c4
        try simp only [CN] at p4
        have his : isM l n = true := by unfold isM; rw [hat]; exact c4
        refine WC.seq fun Fh10_ h10_ => ?_
        refine WC.region ?_
        refine RG.op _ _ rfl rfl (o_move (.own _ _ _ _ _) rfl) ?_
        refine RG.op _ _ rfl rfl (o_assign (.own _ _ _ _ _) rfl) ?_
        refine RG.nil (h10_ _ ?_)
        refine WC.ret ?_
        first | refine endM.mk 1 [_] rfl rfl (by repeat (first | exact trivial | refine And.intro (one_ok (.own _ _ _ _ _ (Nat.le_refl _))) ?_ | refine And.intro (okp (by repeat (first | exact pu_pcs _ | exact pu_ins _ _ _ | exact pu_bytes _ | exact pu_nil | exact pu_vs rfl | exact pu_map (fun _ => .v _) _ | exact pu_vals _ | refine pu_app ?_ ?_ | refine pu_cons (by exact pu_of rfl) ?_))) ?_)) ?_ | (simp only [thenQ, blkQ, noGo]; refine endM.mk 1 [_] rfl rfl (by repeat (first | exact trivial | refine And.intro (one_ok (.own _ _ _ _ _ (Nat.le_refl _))) ?_ | refine And.intro (okp (by repeat (first | exact pu_pcs _ | exact pu_ins _ _ _ | exact pu_bytes _ | exact pu_nil | exact pu_vs rfl | exact pu_map (fun _ => .v _) _ | exact pu_vals _ | refine pu_app ?_ ?_ | refine pu_cons (by exact pu_of rfl) ?_))) ?_)) ?_)
        exact EndsM.r1 rfl (.tmp _ (.own _ _ _ _ _) rfl) (by first | exact .own _ _ _ _ _ (Nat.le_refl _) | exact .v _ | exact Pure'.ok (by exact pu_of rfl) _ | exact .tup _ (by repeat (first | exact ok_nil | refine ok_cons (by first | exact .own _ _ _ _ _ (Nat.le_refl _) | exact .ptr _ _ _ (Nat.le_refl _) | exact .v _ | exact Pure'.ok (by exact pu_of rfl) _) ?_))) (⟨by unfold putV putM; rw [if_pos his, if_pos his], by unfold putV putM; rw [if_pos his, if_pos his]⟩)
      ·
        have p4 := c4
        try simp only [CN] at p4
        have his : ¬ isM l n = true := by unfold isM; rw [hat, c4]; exact Bool.false_ne_true
        have hle : (putM l n).length = k + 1 + (l.length - k) := by unfold putM; rw [if_neg his, hat, List.length_append, List.length_cons, List.length_take, List.length_drop]; omega
        have hpv : putV l n v = v + 2 := by unfold putV; rw [if_neg his]
        have hpm : putM l n = l.take k ++ n :: l.drop k := by unfold putM; rw [if_neg his, hat]
        refine WC.skip (h8_ _ ?_)
        refine WC.seq fun Fh11_ h11_ => ?_
        refine WC.region ?_
        refine RG.op _ _ rfl rfl (o_move (.own _ _ _ _ _) rfl) ?_
        refine RG.op _ _ rfl rfl (o_move (.v _) rfl) ?_
        refine RG.op _ _ rfl rfl (o_cutX (l := l) (k := k) (v := v) rfl rfl Try.underlying67 (sz_of Ty.inf2) hI1) ?_
        refine RG.op _ _ rfl rfl (o_appGN (sz := 1) (bytes := 8) (m := l.length - k) (cs' := (l.drop k).map I64) rfl rfl (src_cut (Elem.of Try.underlying67 Ty.inf2 rfl (by decide)) rfl hI1) (by omega) (by omega)) ?_
        refine RG.op _ _ rfl rfl (o_assign (.own _ _ _ _ _) rfl) ?_
        refine RG.nil (h11_ _ ?_)
        refine WC.seq fun Fh12_ h12_ => ?_
        refine WC.region ?_
        refine RG.op _ _ rfl rfl (o_move (.own _ _ _ _ _) rfl) ?_
        refine RG.op _ _ rfl rfl (o_move (.v _) rfl) ?_
        refine RG.op _ _ rfl rfl (o_cut_own (lo := 0) (hi := k) rfl rfl ⟨_, rfl⟩ Try.underlying67 (sz_of Ty.inf2) (.inl rfl) (Nat.zero_le _) hI1) ?_
        refine RG.op _ _ rfl rfl (o_move (.v _) rfl) ?_
        refine RG.op _ _ rfl rfl (o_litP (cs := [(.v _)]) Try.underlying67 Ty.inf2 rfl rfl rfl rfl (by repeat (first | exact pu_pcs _ | exact pu_ins _ _ _ | exact pu_bytes _ | exact pu_nil | exact pu_vs rfl | exact pu_map (fun _ => .v _) _ | exact pu_vals _ | refine pu_app ?_ ?_ | refine pu_cons (by exact pu_of rfl) ?_))) ?_
        refine RG.op _ _ rfl rfl (o_appG (v + 1) (n := k) (m := 1) (cs' := [I64 n]) rfl rfl (src_rd (Elem.of Try.underlying67 Ty.inf2 rfl (by decide)) rfl (one_cons rfl one_nil)) rfl rfl rfl (by omega) (by simp; omega) (by omega) (by omega)) ?_
        refine RG.op _ _ rfl rfl (o_move (.own _ _ _ _ _) rfl) ?_
        refine RG.op _ _ rfl rfl (o_appG (v + 2) (n := k + 1) (m := l.length - k) (cs' := (l.drop k).map I64) rfl rfl (src_own (Elem.of Try.underlying67 Ty.inf2 rfl (by decide)) rfl rfl (by simp) (by rw [List.drop_zero, List.take_of_length_le (by simp)]) (one_map (fun _ => rfl) _)) rfl rfl rfl (by omega) (by simp; omega) (by omega) (by omega)) ?_
        refine RG.op _ _ rfl rfl (o_assign (.own _ _ _ _ _) rfl) ?_
        refine RG.nil (h12_ _ ?_)
        refine WC.ret ?_
        first | refine endM.mk 1 [_] rfl rfl (by repeat (first | exact trivial | refine And.intro (one_ok (.own _ _ _ _ _ (Nat.le_refl _))) ?_ | refine And.intro (okp (by repeat (first | exact pu_pcs _ | exact pu_ins _ _ _ | exact pu_bytes _ | exact pu_nil | exact pu_vs rfl | exact pu_map (fun _ => .v _) _ | exact pu_vals _ | refine pu_app ?_ ?_ | refine pu_cons (by exact pu_of rfl) ?_))) ?_)) ?_ | (simp only [thenQ, blkQ, noGo]; refine endM.mk 1 [_] rfl rfl (by repeat (first | exact trivial | refine And.intro (one_ok (.own _ _ _ _ _ (Nat.le_refl _))) ?_ | refine And.intro (okp (by repeat (first | exact pu_pcs _ | exact pu_ins _ _ _ | exact pu_bytes _ | exact pu_nil | exact pu_vs rfl | exact pu_map (fun _ => .v _) _ | exact pu_vals _ | refine pu_app ?_ ?_ | refine pu_cons (by exact pu_of rfl) ?_))) ?_)) ?_)
        exact EndsM.r1 rfl (.tmp _ (.own _ _ _ _ _) rfl) (by first | exact .own _ _ _ _ _ (Nat.le_refl _) | exact .v _ | exact Pure'.ok (by exact pu_of rfl) _ | exact .tup _ (by repeat (first | exact ok_nil | refine ok_cons (by first | exact .own _ _ _ _ _ (Nat.le_refl _) | exact .ptr _ _ _ (Nat.le_refl _) | exact .v _ | exact Pure'.ok (by exact pu_of rfl) _) ?_))) (⟨by rw [hle, hpv], by rw [hpv, hpm, ← ins_eq n hI1]⟩)
end Go.Proofs.Ytoekdjdgeleelaa
namespace Go.DL
open Go.RowKit
theorem OpD.frzL {P : Program} {C : Ctx} {o : Oper} {env : Nat → D} {H H' : Heap} {d : D} (id : Nat) (b : Blk) (L : List (Nat × D)) (hb : H[id]? = some (some b)) (hp : ∀ c ∈ b.cs, Pure' c) (hL : Frz1L id b env L) (h : OpD P C o (updL env L) (H.set id none) d H') : OpD P C o env H d H' := by
  refine ⟨(HLe.kill H id).trans h.len, fun K β a w Kc Q hw hx hk hq => ?_⟩
  obtain ⟨K', hK, hw', hz⟩ := hw.frz1 hb hp
  have hev : ∀ x, ev (updL env L) x = ev env x ∨ Frz1 id b (ev env x) (ev (updL env L) x) := by
    intro x
    cases x with
    | tmp t =>
      rcases updL_at env L t with ⟨p, hp', rfl, h2⟩ | ⟨_, h2⟩
      · right
        show Frz1 id b (env p.1) (updL env L p.1)
        rw [h2]; exact hL.at p hp'
      · left; exact h2
    | _ => left; rfl
  refine h.go K' β a w Kc Q hw' (fun x hxm => ?_) (fun x hxm => ?_) fun K'' β' v w' kx ag ws dr ok => ?_
  · rcases hev x with e | e
    · rw [e]; exact (hx x hxm).mono hK.le (fun _ => hk x hxm) (Agr.refl _ _)
    · exact hz _ _ _ (hx x hxm) e
  · rcases hev x with e | e
    · rw [e]; exact (hk x hxm).mono (HLe.kill _ _)
    · exact e.ok _
  · have e1 : Ext C K β H K' β (H.set id none) := ⟨hK, Agr.refl _ _, HLe.kill _ _⟩
    have e2 : Ext C K' β (H.set id none) K'' β' H' := ⟨kx, ag, h.len⟩
    have e3 := e1.trans e2
    exact hq K'' β' v w' e3.kx e3.ag ws dr ok
end Go.DL
namespace Go.Proofs.Ytoekdjdgeleelaa
open Go.RowKit Go.DL

def stepR (s : List Int × Nat) (p : Sp) : List Int × Nat := if decide (p.2 > p.1) = true then (putM (putM s.1 p.1) p.2, putV (putM s.1 p.1) p.2 (putV s.1 p.1 s.2)) else s
def foldR (l : List Sp) : List Int × Nat := l.foldl stepR ([], 0)
def frL (l : List Sp) (k : Nat) : List Int := (foldR (l.take k)).1
def frV (l : List Sp) (k : Nat) : Nat := (foldR (l.take k)).2
theorem foldR_step {l : List Sp} {k : Nat} (h : k < l.length) : foldR (l.take (k + 1)) = stepR (foldR (l.take k)) l[k] := by
  unfold foldR
  rw [List.take_succ_eq_append_getElem h, List.foldl_append]; rfl
theorem fr_on {l : List Sp} {k : Nat} (h : k < l.length) (c : decide ((l[k]).2 > (l[k]).1) = true) : frL l (k + 1) = putM (putM (frL l k) l[k].1) l[k].2 ∧ frV l (k + 1) = putV (putM (frL l k) l[k].1) l[k].2 (putV (frL l k) l[k].1 (frV l k)) := by
  unfold frL frV
  rw [foldR_step h, stepR, if_pos c]; exact ⟨rfl, rfl⟩
theorem fr_off {l : List Sp} {k : Nat} (h : k < l.length) (c : decide ((l[k]).2 > (l[k]).1) = false) : frL l (k + 1) = frL l k ∧ frV l (k + 1) = frV l k := by
  unfold frL frV
  rw [foldR_step h, stepR, if_neg (by rw [c]; exact Bool.false_ne_true)]; exact ⟨rfl, rfl⟩
theorem frL_len (l : List Sp) : ∀ k, k ≤ l.length → (frL l k).length ≤ 2 * k
  | 0, _ => Nat.le_refl _
  | k + 1, h => by
    have ih := frL_len l k (by omega)
    have hk : k < l.length := by omega
    cases c : decide ((l[k]).2 > (l[k]).1) with
    | false => rw [(fr_off hk c).1]; omega
    | true =>
      rw [(fr_on hk c).1]
      have h1 := (putM_len (frL l k) l[k].1).1
      have h2 := (putM_len (putM (frL l k) l[k].1) l[k].2).1
      omega
set_option maxHeartbeats 4000000 in
theorem rends_c (l : List Sp) (hl : l.length ≤ 274877906944) : Fun Try.prog 67 [rdP l] (· = rdI (foldR l).1) := by
  refine Fun.of Try.func67 rfl (Nat.le_of_ble_eq_true rfl) fun C => ?_
  refine WC.seq fun Fh1_ h1_ => ?_
  refine WC.region ?_
  refine RG.op _ _ rfl rfl (o_assign (.v _) rfl) ?_
  refine RG.nil (h1_ _ ?_)
  refine WC.seq fun Fh2_ h2_ => ?_
  refine WC.region ?_
  refine RG.op _ _ rfl rfl (o_nil 2 1) ?_
  refine RG.nil (h2_ _ ?_)
  refine WC.seq fun Fh3_ h3_ => ?_
  refine WC.seq fun Fh4_ h4_ => ?_
  refine WC.region ?_
  refine RG.op _ _ rfl rfl (o_assign (.v _) rfl) ?_
  refine RG.nil (h4_ _ ?_)
  refine WC.block ?_
  refine WC.loopU [3, 4, 5, 6, 7, 8, 9, 10, 11, 12, 13, 14, 15, 16, 17, 18, 19, 20, 21, 22, 23, 24, 25, 26, 27, 28, 29, 30, 31, 32, 33, 34] (fun (k : Nat) => [(4, I64 ((k : Nat) : Int)), (3, .own 0 (frV l k) 0 (frL l k).length 1)]) (fun (k : Nat) => [(0, some ⟨(frL l k).map I64, 2, true, frV l k⟩)]) (fun (k : Nat) => k ≤ l.length) (fun (k : Nat) => l.length - k) 0 (Nat.zero_le _) ?lpa5_ ?lpb6_
  case lpa5_ =>
    exact .mk' ⟨⟨rfl, .v _⟩, ⟨rfl, (by first | exact .own _ _ _ _ _ (Nat.le_refl _) | exact .ptr _ _ _ (Nat.le_refl _) | exact .omp _ _ (Nat.le_refl _))⟩, trivial⟩ (same_refl _ _) (rfl) (by repeat (first | exact trivial | refine And.intro (Nat.le_refl _) ?_ | refine And.intro trivial ?_ | refine And.intro (by show _ ≤ _; (first | omega | (simp only [LS, len_pcs] <;> omega))) ?_)) (by repeat (first | exact trivial | refine And.intro (one_ok (.own _ _ _ _ _ (Nat.le_refl _))) ?_ | refine And.intro (okp (by repeat (first | exact pu_pcs _ | exact pu_bytes _ | exact pu_nil | exact pu_vs rfl | exact pu_map (fun _ => .v _) _ | exact pu_vals _ | refine pu_app ?_ ?_ | refine pu_cons (by exact pu_of rfl) ?_))) ?_))
  case lpb6_ =>
    rintro k hI
    have hfl := frL_len l k hI
    refine WC.seq fun Fh7_ h7_ => ?_
    refine WC.seq fun Fh8_ h8_ => ?_
    refine WC.region ?_
    refine RG.op _ _ rfl rfl (o_move (.v _) rfl) ?_
    refine RG.op _ _ rfl rfl (o_move (.rd _ _) rfl) ?_
    refine RG.op _ _ rfl rfl (o_len_rd rfl Try.underlying22) ?_
    refine RG.op _ _ rfl rfl (o_ltI rfl rfl) ?_
    refine RG.nil (h8_ _ ?_)
    refine WC.cond _ rfl (fun c3 => ?_) (fun c3 => ?_)
    ·
      have p3 := c3
      try simp only [CN] at p3
      have hkl : k < l.length := by omega
      refine WC.skip (h7_ _ ?_)
      refine WC.seq fun Fh9_ h9_ => ?_
      refine WC.block ?_
      refine WC.seq fun Fh10_ h10_ => ?_
      refine WC.drawn1 (by kernel_rfl) ?_
      refine PG.op _ rfl rfl rfl (by rintro _ rfl; exact o_move (.rd _ _) rfl) ?_
      refine PG.op _ rfl rfl rfl (by rintro _ rfl; exact o_move (.v _) rfl) ?_
      refine PG.op _ rfl rfl rfl (by rintro _ rfl; exact o_ixn_L (l := l) (f := pc) k pc_len rfl rfl rfl Try.underlying22 (sz_of Ty.inf36) rfl hkl) ?_
      refine PG.op _ rfl rfl rfl (by rintro _ rfl; exact o_fld_adr rfl Try.underlying36 rfl (sz_of Ty.inf2) (by decide)) ?_
      refine PG.op _ rfl rfl rfl (by rintro _ rfl; exact o_load_adr rfl Try.underlying2 rfl rfl) ?_
      refine PG.op _ rfl rfl rfl (by rintro _ rfl; exact o_move (.rd _ _) rfl) ?_
      refine PG.op _ rfl rfl rfl (by rintro _ rfl; exact o_move (.v _) rfl) ?_
      refine PG.op _ rfl rfl rfl (by rintro _ rfl; exact o_ixn_L (l := l) (f := pc) k pc_len rfl rfl rfl Try.underlying22 (sz_of Ty.inf36) rfl hkl) ?_
      refine PG.op _ rfl rfl rfl (by rintro _ rfl; exact o_fld_adr rfl Try.underlying36 rfl (sz_of Ty.inf2) (by decide)) ?_
      refine PG.op _ rfl rfl rfl (by rintro _ rfl; exact o_load_adr rfl Try.underlying2 rfl rfl) ?_
      refine PG.op _ rfl rfl rfl (by rintro _ rfl; exact o_gtI rfl rfl) ?_
      refine PG.nil ⟨by kernel_rfl, rfl, (h10_ _ ?_)⟩
      refine WC.cond _ rfl (fun c5 => ?_) (fun c5 => ?_)
      ·
        have p5 := c5
        try simp only [CN] at p5
        have hm1 := putM_len (frL l k) (l[k]'hkl).1
        have hv1 := putV_le (frL l k) (l[k]'hkl).1 (frV l k)
        have hm2 := putM_len (putM (frL l k) (l[k]'hkl).1) (l[k]'hkl).2
        have hv2 := putV_le (putM (frL l k) (l[k]'hkl).1) (l[k]'hkl).2 (putV (frL l k) (l[k]'hkl).1 (frV l k))
        refine WC.drawn2 (by kernel_rfl) ?_
        refine PG.op _ rfl rfl rfl (fun _ _ => o_move (.own _ _ _ _ _) rfl) ?_
        refine PG.op _ rfl rfl rfl (fun _ _ => o_move (.rd _ _) rfl) ?_
        refine PG.op _ rfl rfl rfl (fun _ _ => o_move (.v _) rfl) ?_
        refine PG.op _ rfl rfl rfl (fun _ _ => o_ixn_L (l := l) (f := pc) k pc_len rfl rfl rfl Try.underlying22 (sz_of Ty.inf36) rfl hkl) ?_
        refine PG.op _ rfl rfl rfl (fun _ _ => o_fld_adr rfl Try.underlying36 rfl (sz_of Ty.inf2) (by decide)) ?_
        refine PG.op _ rfl rfl rfl (fun _ _ => o_load_adr rfl Try.underlying2 rfl rfl) ?_
        refine PG.opm _ _ rfl rfl rfl (OpX.d (x_call Ty.cal83 (FunM.frame (ds := [_, _]) [0] [_] [_] [] (put_c _ _ _ (by first | omega | exact ubyte _ | (simp only [LS, len_pcs] <;> omega))) (by decide) ⟨rfl, trivial⟩ ⟨.pure (by repeat (first | exact pu_pcs _ | exact pu_bytes _ | exact pu_nil | exact pu_vs rfl | exact pu_map (fun _ => .v _) _ | exact pu_vals _ | refine pu_app ?_ ?_ | refine pu_cons (by exact pu_of rfl) ?_)), trivial⟩ ⟨.own _ _ _ _ _ rfl, .pure _ (by exact pu_of rfl), trivial⟩ rfl ⟨.pure (by repeat (first | exact pu_pcs _ | exact pu_bytes _ | exact pu_nil | exact pu_vs rfl | exact pu_map (fun _ => .v _) _ | exact pu_vals _ | refine pu_app ?_ ?_ | refine pu_cons (by exact pu_of rfl) ?_)), trivial⟩ (.own _ _ _ _ _ rfl) rfl) ⟨.inl rfl, .inl rfl, trivial⟩) (VLe.le (by repeat (first | exact trivial | refine And.intro (Nat.le_refl _) ?_ | refine And.intro trivial ?_ | refine And.intro (by show _ ≤ _; (first | omega | (simp only [LS, len_pcs] <;> omega))) ?_)))) ?_
        refine PG.op _ rfl rfl rfl (fun _ _ => o_move (.rd _ _) rfl) ?_
        refine PG.op _ rfl rfl rfl (fun _ _ => o_move (.v _) rfl) ?_
        refine PG.op _ rfl rfl rfl (fun _ _ => o_ixn_L (l := l) (f := pc) k pc_len rfl rfl rfl Try.underlying22 (sz_of Ty.inf36) rfl hkl) ?_
        refine PG.op _ rfl rfl rfl (fun _ _ => o_fld_adr rfl Try.underlying36 rfl (sz_of Ty.inf2) (by decide)) ?_
        refine PG.op _ rfl rfl rfl (fun _ _ => o_load_adr rfl Try.underlying2 rfl rfl) ?_
        refine PG.opm _ _ rfl rfl rfl (OpX.d (x_call Ty.cal83 (FunM.frame (ds := [_, _]) [0] [_] [_] [] (put_c _ _ _ (by first | omega | exact ubyte _ | (simp only [LS, len_pcs] <;> omega))) (by decide) ⟨rfl, trivial⟩ ⟨.pure (by repeat (first | exact pu_pcs _ | exact pu_bytes _ | exact pu_nil | exact pu_vs rfl | exact pu_map (fun _ => .v _) _ | exact pu_vals _ | refine pu_app ?_ ?_ | refine pu_cons (by exact pu_of rfl) ?_)), trivial⟩ ⟨.own _ _ _ _ _ rfl, .pure _ (by exact pu_of rfl), trivial⟩ rfl ⟨.pure (by repeat (first | exact pu_pcs _ | exact pu_bytes _ | exact pu_nil | exact pu_vs rfl | exact pu_map (fun _ => .v _) _ | exact pu_vals _ | refine pu_app ?_ ?_ | refine pu_cons (by exact pu_of rfl) ?_)), trivial⟩ (.own _ _ _ _ _ rfl) rfl) ⟨.inl rfl, .inl rfl, trivial⟩) (VLe.le (by repeat (first | exact trivial | refine And.intro (Nat.le_refl _) ?_ | refine And.intro trivial ?_ | refine And.intro (by show _ ≤ _; (first | omega | (simp only [LS, len_pcs] <;> omega))) ?_)))) ?_
        refine PG.op _ rfl rfl rfl (fun _ _ => o_assign (.own _ _ _ _ _) rfl) ?_
        refine PG.nil ⟨by kernel_rfl, trivial, (h9_ _ ?_)⟩
        refine WC.region ?_
        refine RG.op _ _ rfl rfl (o_move (.v _) rfl) ?_
        refine RG.op _ _ rfl rfl (o_add rfl rfl (by first | omega | exact ubyte _ | (simp only [LS, len_pcs] <;> omega)) (by first | omega | exact ubyte _ | (simp only [LS, len_pcs] <;> omega))) ?_
        refine RG.op _ _ rfl rfl (o_assign (.v _) rfl) ?_
        refine RG.nil (Exists.intro (k + 1) ⟨by first | omega | (simp only [LS, len_pcs] <;> omega), by first | omega | (simp only [LS, len_pcs] <;> omega), ?_⟩)
        exact .mk' ⟨⟨rfl, .v _⟩, ⟨(by rw [(fr_on hkl c5).1, (fr_on hkl c5).2]; rfl), (by first | exact .own _ _ _ _ _ (Nat.le_refl _) | exact .ptr _ _ _ (Nat.le_refl _) | exact .omp _ _ (Nat.le_refl _))⟩, trivial⟩ (by repeat (first | with_reducible exact same_refl _ _ | with_reducible refine same_updO (by with_unfolding_all exact rfl) ?_ | with_reducible refine same_updN ?_ | with_reducible refine same_updL (by with_unfolding_all exact rfl) ?_ | with_reducible refine same_forget (by with_unfolding_all exact rfl) ?_)) (congrArg (fun c => [some c]) (by rw [(fr_on hkl c5).1, (fr_on hkl c5).2])) (by repeat (first | exact trivial | refine And.intro (Nat.le_refl _) ?_ | refine And.intro trivial ?_ | refine And.intro (by show _ ≤ _; (first | omega | (simp only [LS, len_pcs] <;> omega))) ?_)) (by repeat (first | exact trivial | refine And.intro (one_ok (.own _ _ _ _ _ (Nat.le_refl _))) ?_ | refine And.intro (okp (by repeat (first | exact pu_pcs _ | exact pu_bytes _ | exact pu_nil | exact pu_vs rfl | exact pu_map (fun _ => .v _) _ | exact pu_vals _ | refine pu_app ?_ ?_ | refine pu_cons (by exact pu_of rfl) ?_))) ?_))
      ·
        have p5 := c5
        try simp only [CN] at p5
        refine WC.skip (h9_ _ ?_)
        refine WC.region ?_
        refine RG.op _ _ rfl rfl (o_move (.v _) rfl) ?_
        refine RG.op _ _ rfl rfl (o_add rfl rfl (by first | omega | exact ubyte _ | (simp only [LS, len_pcs] <;> omega)) (by first | omega | exact ubyte _ | (simp only [LS, len_pcs] <;> omega))) ?_
        refine RG.op _ _ rfl rfl (o_assign (.v _) rfl) ?_
        refine RG.nil (Exists.intro (k + 1) ⟨by first | omega | (simp only [LS, len_pcs] <;> omega), by first | omega | (simp only [LS, len_pcs] <;> omega), ?_⟩)
        exact .mk' ⟨⟨rfl, .v _⟩, ⟨(by rw [(fr_off hkl c5).1, (fr_off hkl c5).2]; rfl), (by first | exact .own _ _ _ _ _ (Nat.le_refl _) | exact .ptr _ _ _ (Nat.le_refl _) | exact .omp _ _ (Nat.le_refl _))⟩, trivial⟩ (by repeat (first | with_reducible exact same_refl _ _ | with_reducible refine same_updO (by with_unfolding_all exact rfl) ?_ | with_reducible refine same_updN ?_ | with_reducible refine same_updL (by with_unfolding_all exact rfl) ?_ | with_reducible refine same_forget (by with_unfolding_all exact rfl) ?_)) (congrArg (fun c => [some c]) (by rw [(fr_off hkl c5).1, (fr_off hkl c5).2])) (by repeat (first | exact trivial | refine And.intro (Nat.le_refl _) ?_ | refine And.intro trivial ?_ | refine And.intro (by show _ ≤ _; (first | omega | (simp only [LS, len_pcs] <;> omega))) ?_)) (by repeat (first | exact trivial | refine And.intro (one_ok (.own _ _ _ _ _ (Nat.le_refl _))) ?_ | refine And.intro (okp (by repeat (first | exact pu_pcs _ | exact pu_bytes _ | exact pu_nil | exact pu_vs rfl | exact pu_map (fun _ => .v _) _ | exact pu_vals _ | refine pu_app ?_ ?_ | refine pu_cons (by exact pu_of rfl) ?_))) ?_))
    ·
      have p3 := c3
      try simp only [CN] at p3
      refine WC.exit (h3_ _ ?_)
      refine WC.seq fun Fh11_ h11_ => ?_
      refine WC.region ?_
      refine RG.op _ _ rfl rfl (o_move (.own _ _ _ _ _) rfl) ?_
      refine RG.op _ _ rfl rfl (o_assign (.own _ _ _ _ _) rfl) ?_
      refine RG.nil (h11_ _ ?_)
      refine WC.ret ?_
      exact Ends.r1 rfl (.tmp _ (.own _ _ _ _ _) rfl) (Frz.row rfl rfl (pu_map (fun _ => .v _) _)) ((by unfold frL; rw [List.take_of_length_le (by omega)]))
end Go.Proofs.Ytoekdjdgeleelaa
namespace Go.Proofs.Ytoekdjdgeleelaa
open Go.RowKit Go.DL

/-- Is a piece left out? -/
def outB (how : Int) (p q : Bool) : Bool := (((decide (how = 0) && !p) && !q) || (decide (how = 1) && !(p && q))) || (decide (how = 2) && (!p || q))
/-- One piece more, joined to the one ahead that ends where it begins. -/
def rejM (l : List Sp) (x y : Int) : List Sp := if (decide ((l.length : Int) > 0) && decide ((l.getD (l.length - 1) (0, 0)).2 = x)) = true then l.set (l.length - 1) ((l.getD (l.length - 1) (0, 0)).1, y) else l ++ [(x, y)]
theorem rejM_len (l : List Sp) (x y : Int) : (rejM l x y).length ≤ l.length + 1 ∧ l.length ≤ (rejM l x y).length := by
  unfold rejM
  split <;> simp
def refJ (how : Int) (a b : List Sp) (T : List Int) : Nat → List Sp
  | 0 => []
  | k + 1 => if outB how (hasL a (T.getD k 0)) (hasL b (T.getD k 0)) = true then refJ how a b T k else rejM (refJ how a b T k) (T.getD k 0) (T.getD (k + 1) 0)
theorem refJ_len (how : Int) (a b : List Sp) (T : List Int) : ∀ k, (refJ how a b T k).length ≤ k
  | 0 => Nat.le_refl _
  | k + 1 => by
    have h := refJ_len how a b T k
    have h2 := rejM_len (refJ how a b T k) (T.getD k 0) (T.getD (k + 1) 0)
    rw [refJ]
    split <;> omega
def refT (a b : List Sp) : List Int := (foldR (a ++ b)).1
def refM (how : Int) (a b : List Sp) : List Sp := refJ how a b (refT a b) ((refT a b).length - 1)
theorem refT_len (a b : List Sp) : (refT a b).length ≤ 2 * (a.length + b.length) := by
  have := frL_len (a ++ b) (a ++ b).length (Nat.le_refl _)
  unfold frL at this
  rw [List.take_length, List.length_append] at this
  exact this
set_option maxRecDepth 20000 in
set_option maxHeartbeats 4000000 in
theorem of_c (how : Int) (a b : List Sp) (ha : a.length ≤ 68719476736) (hb : b.length ≤ 68719476736) : Fun Try.prog 47 [rdP a, rdP b, I64 how] (· = rdP (refM how a b)) := by
  have hTl := refT_len a b
  have hab : (a ++ b).length = a.length + b.length := List.length_append
  have hre : Fun Try.prog 67 [rdP (a ++ b)] (· = rdI (refT a b)) := rends_c (a ++ b) (by omega)
  refine Fun.of Try.func47 rfl (Nat.le_of_ble_eq_true rfl) fun C => ?_
  refine WC.seq fun Fh1_ h1_ => ?_
  refine WC.region ?_
  refine RG.op _ _ rfl rfl (o_assign (.v _) rfl) ?_
  refine RG.nil (h1_ _ ?_)
  refine WC.seq fun Fh2_ h2_ => ?_
  refine WC.region ?_
  refine RG.op _ _ rfl rfl (o_move (.rd _ _) rfl) ?_
  refine RG.op _ _ rfl rfl (o_appN (Elem.of Try.underlying22 Ty.inf36 rfl (by decide)) rfl rfl (by first | omega | exact ubyte _ | (simp only [LS, len_pcs] <;> omega)) (by repeat (first | exact bytesD_one _ | exact one_nil | exact one_map (fun _ => rfl) _ | exact one_vals _ | exact one_pcs _ | refine one_app ?_ ?_ | refine one_cons rfl ?_)) (by first | omega | exact ubyte _ | (simp only [LS, len_pcs] <;> omega)) (by first | omega | exact ubyte _ | (simp only [LS, len_pcs] <;> omega))) ?_
  refine RG.op _ _ rfl rfl (o_move (.rd _ _) rfl) ?_
  refine RG.op _ _ rfl rfl (o_appT (Elem.of Try.underlying22 Ty.inf36 rfl (by decide)) rfl rfl rfl (by first | omega | exact ubyte _ | (simp only [LS, len_pcs] <;> omega)) (by first | omega | exact ubyte _ | (simp only [LS, len_pcs] <;> omega)) (by repeat (first | exact bytesD_one _ | exact one_nil | exact one_map (fun _ => rfl) _ | exact one_vals _ | exact one_pcs _ | refine one_app ?_ ?_ | refine one_cons rfl ?_)) (by first | omega | exact ubyte _ | (simp only [LS, len_pcs] <;> omega)) (by first | omega | exact ubyte _ | (simp only [LS, len_pcs] <;> omega))) ?_
  refine RG.op _ _ rfl rfl (OpD.frzL 0 _ [(15, rdP (a ++ b))] rfl (by repeat (first | exact pu_pcs _ | exact pu_tk _ _ | exact pu_dr _ _ | exact pu_bytes _ | exact pu_nil | exact pu_vs rfl | exact pu_map (fun _ => .v _) _ | exact pu_vals _ | refine pu_app ?_ ?_ | refine pu_cons (by exact pu_of rfl) ?_)) ⟨.rowE rfl (by simp) (by simp [List.flatMap_append]), trivial⟩ (o_call Ty.cal67 hre ⟨.inl rfl, trivial⟩ (by exact pua rfl))) ?_
  refine RG.op _ _ rfl rfl (o_assign (.rd _ _) rfl) ?_
  refine RG.nil (h2_ _ ?_)
  refine WC.seq fun Fh3_ h3_ => ?_
  refine WC.region ?_
  refine RG.op _ _ rfl rfl (o_nil 36 2) ?_
  refine RG.nil (h3_ _ ?_)
  refine WC.seq fun Fh4_ h4_ => ?_
  refine WC.seq fun Fh5_ h5_ => ?_
  refine WC.region ?_
  refine RG.op _ _ rfl rfl (o_assign (.v _) rfl) ?_
  refine RG.nil (h5_ _ ?_)
  refine WC.block ?_
  refine WC.loopU [8, 9, 10, 11, 17, 18, 19, 20, 21, 22, 23, 24, 25, 26, 27, 28, 29, 30, 31, 32, 33, 34, 35, 36, 37, 38, 39, 40, 41, 42, 43, 44, 45, 46, 47, 48, 49, 50, 51, 52, 53, 54, 55, 56, 57, 58, 59, 60, 61, 62, 63, 64, 65, 66, 67, 68, 69, 70, 71, 72, 73, 74, 75, 76, 77, 78, 79, 80, 81, 82, 83, 84, 85, 86, 87, 88, 89, 90, 91, 92, 93, 94, 95, 96, 97, 98, 99, 100, 101, 102, 103, 104, 105, 106, 107, 108] (fun (k : Nat) => [(9, I64 ((k : Nat) : Int)), (8, ow 1 (refJ how a b (refT a b) k).length 2)]) (fun (k : Nat) => [(1, tb 36 (refJ how a b (refT a b) k).length ((refJ how a b (refT a b) k).flatMap pc))]) (fun (k : Nat) => k ≤ (refT a b).length - 1) (fun (k : Nat) => (refT a b).length - 1 - k) 0 (Nat.zero_le _) ?lpa6_ ?lpb7_
  case lpa6_ =>
    exact .mk' ⟨⟨rfl, .v _⟩, ⟨rfl, (by first | exact .own _ _ _ _ _ (Nat.le_refl _) | exact .ptr _ _ _ (Nat.le_refl _) | exact .omp _ _ (Nat.le_refl _))⟩, trivial⟩ (same_refl _ _) (rfl) (by repeat (first | exact trivial | refine And.intro (Nat.le_refl _) ?_ | refine And.intro trivial ?_ | refine And.intro (by show _ ≤ _; (first | omega | (simp only [LS, len_pcs] <;> omega))) ?_)) (by repeat (first | exact trivial | refine And.intro (one_ok (.own _ _ _ _ _ (Nat.le_refl _))) ?_ | refine And.intro (okp (by repeat (first | exact pu_pcs _ | exact pu_tk _ _ | exact pu_dr _ _ | exact pu_bytes _ | exact pu_nil | exact pu_vs rfl | exact pu_map (fun _ => .v _) _ | exact pu_vals _ | refine pu_app ?_ ?_ | refine pu_cons (by exact pu_of rfl) ?_))) ?_))
  case lpb7_ =>
    rintro k hI
    have hjl := refJ_len how a b (refT a b) k
    refine WC.seq fun Fh8_ h8_ => ?_
    refine WC.seq fun Fh9_ h9_ => ?_
    refine WC.region ?_
    refine RG.op _ _ rfl rfl (o_move (.v _) rfl) ?_
    refine RG.op _ _ rfl rfl (o_add rfl rfl (by first | omega | exact ubyte _ | (simp only [LS, len_pcs] <;> omega)) (by first | omega | exact ubyte _ | (simp only [LS, len_pcs] <;> omega))) ?_
    refine RG.op _ _ rfl rfl (o_move (.rd _ _) rfl) ?_
    refine RG.op _ _ rfl rfl (o_len_rd rfl Try.underlying67) ?_
    refine RG.op _ _ rfl rfl (o_ltI rfl rfl) ?_
    refine RG.nil (h9_ _ ?_)
    refine WC.cond _ rfl (fun c4 => ?_) (fun c4 => ?_)
    ·
      have p4 := c4
      try simp only [CN] at p4
      have hkl : k + 1 < (refT a b).length := by omega
      refine WC.skip (h8_ _ ?_)
      refine WC.seq fun Fh10_ h10_ => ?_
      refine WC.block ?_
      refine WC.seq fun Fh11_ h11_ => ?_
      refine WC.drawn1 (by kernel_rfl) ?_
      refine PG.op _ rfl rfl rfl (by rintro _ rfl; exact o_move (.rd _ _) rfl) ?_
      refine PG.op _ rfl rfl rfl (by rintro _ rfl; exact o_move (.rd _ _) rfl) ?_
      refine PG.op _ rfl rfl rfl (by rintro _ rfl; exact o_move (.v _) rfl) ?_
      refine PG.op _ rfl rfl rfl (by rintro _ rfl; exact o_ixn_MZ (0 : Int) k rfl rfl Try.underlying67 (sz_of Ty.inf2) rfl (by omega)) ?_
      refine PG.op _ rfl rfl rfl (by rintro _ rfl; exact o_load_adr rfl Try.underlying2 rfl rfl) ?_
      refine PG.op _ rfl rfl rfl (by rintro _ rfl; exact o_call Ty.cal25 (rhas_c _ _ (by first | omega | exact ubyte _ | (simp only [LS, len_pcs] <;> omega))) ⟨.inl rfl, .inl rfl, trivial⟩ (by exact pua rfl)) ?_
      refine PG.op _ rfl rfl rfl (by rintro _ rfl; exact o_move (.rd _ _) rfl) ?_
      refine PG.op _ rfl rfl rfl (by rintro _ rfl; exact o_move (.rd _ _) rfl) ?_
      refine PG.op _ rfl rfl rfl (by rintro _ rfl; exact o_move (.v _) rfl) ?_
      refine PG.op _ rfl rfl rfl (by rintro _ rfl; exact o_ixn_MZ (0 : Int) k rfl rfl Try.underlying67 (sz_of Ty.inf2) rfl (by omega)) ?_
      refine PG.op _ rfl rfl rfl (by rintro _ rfl; exact o_load_adr rfl Try.underlying2 rfl rfl) ?_
      refine PG.op _ rfl rfl rfl (by rintro _ rfl; exact o_call Ty.cal25 (rhas_c _ _ (by first | omega | exact ubyte _ | (simp only [LS, len_pcs] <;> omega))) ⟨.inl rfl, .inl rfl, trivial⟩ (by exact pua rfl)) ?_
      refine PG.op _ rfl rfl rfl (by rintro _ rfl; exact o_assign (.v _) rfl) ?_
      refine PG.op _ rfl rfl rfl (by rintro _ rfl; exact o_assign (.v _) rfl) ?_
      refine PG.nil ⟨by kernel_rfl, rfl, (h11_ _ ?_)⟩
      refine WC.seq fun Fh12_ h12_ => ?_
      refine WC.seq fun Fh13_ h13_ => ?_
      refine WC.region ?_
      refine RG.op _ _ rfl rfl (o_move (.v _) rfl) ?_
      refine RG.op _ _ rfl rfl (o_eqI rfl rfl) ?_
      refine RG.op _ _ rfl rfl (o_move (.v _) rfl) ?_
      refine RG.opg1 _ _ _ _ _ rfl rfl rfl rfl rfl (fun hb => o_move (.v _) rfl) ?_
      refine RG.opg1 _ _ _ _ _ rfl rfl rfl rfl rfl (fun hb => o_not (gdT hb)) ?_
      refine RG.op _ _ rfl rfl (o_and _ _ rfl rfl rfl) ?_
      refine RG.op _ _ rfl rfl (o_move (.v _) rfl) ?_
      refine RG.opg1 _ _ _ _ _ rfl rfl rfl rfl rfl (fun hb => o_move (.v _) rfl) ?_
      refine RG.opg1 _ _ _ _ _ rfl rfl rfl rfl rfl (fun hb => o_not (gdT hb)) ?_
      refine RG.op _ _ rfl rfl (o_and _ _ rfl rfl rfl) ?_
      refine RG.op _ _ rfl rfl (o_move (.v _) rfl) ?_
      refine RG.opg1 _ _ _ _ _ rfl rfl rfl rfl rfl (fun hb => o_move (.v _) rfl) ?_
      refine RG.opg1 _ _ _ _ _ rfl rfl rfl rfl rfl (fun hb => o_eqI (gdT hb) rfl) ?_
      refine RG.opg1 _ _ _ _ _ rfl rfl rfl rfl rfl (fun hb => o_move (.v _) (gdT hb)) ?_
      refine RG.opg2 _ _ _ _ _ _ rfl rfl rfl rfl rfl (fun hb => o_move (.v _) rfl) ?_
      refine RG.opg2 _ _ _ _ _ _ rfl rfl rfl rfl rfl (fun hb => o_move (.v _) (gdT hb)) ?_
      refine RG.opg2 _ _ _ _ _ _ rfl rfl rfl rfl rfl (fun hb => o_move (.v _) rfl) ?_
      refine RG.opg2 _ _ _ _ _ _ rfl rfl rfl rfl rfl (fun hb => o_and _ _ (gdT hb) (gdS hb) rfl) ?_
      refine RG.opg2 _ _ _ _ _ _ rfl rfl rfl rfl rfl (fun hb => o_not (gdT hb)) ?_
      refine RG.opg1 _ _ _ _ _ rfl rfl rfl rfl rfl (fun hb => o_and _ _ (gdT hb) (gdS hb) rfl) ?_
      refine RG.op _ _ rfl rfl (o_or _ _ rfl rfl rfl) ?_
      refine RG.op _ _ rfl rfl (o_move (.v _) rfl) ?_
      refine RG.opg1 _ _ _ _ _ rfl rfl rfl rfl rfl (fun hb => o_move (.v _) rfl) ?_
      refine RG.opg1 _ _ _ _ _ rfl rfl rfl rfl rfl (fun hb => o_eqI (gdT hb) rfl) ?_
      refine RG.opg1 _ _ _ _ _ rfl rfl rfl rfl rfl (fun hb => o_move (.v _) (gdT hb)) ?_
      refine RG.opg2 _ _ _ _ _ _ rfl rfl rfl rfl rfl (fun hb => o_move (.v _) rfl) ?_
      refine RG.opg2 _ _ _ _ _ _ rfl rfl rfl rfl rfl (fun hb => o_not (gdT hb)) ?_
      refine RG.opg2 _ _ _ _ _ _ rfl rfl rfl rfl rfl (fun hb => o_move (.v _) (gdT hb)) ?_
      refine RG.opg2 _ _ _ _ _ _ rfl rfl rfl rfl rfl (fun hb => o_move (.v _) rfl) ?_
      refine RG.opg2 _ _ _ _ _ _ rfl rfl rfl rfl rfl (fun hb => o_or _ _ (gdT hb) rfl (gdS hb)) ?_
      refine RG.opg1 _ _ _ _ _ rfl rfl rfl rfl rfl (fun hb => o_and _ _ (gdT hb) (gdS hb) rfl) ?_
      refine RG.op _ _ rfl rfl (o_or _ _ rfl rfl rfl) ?_
      refine RG.nil (h13_ _ ?_)
      refine WC.cond _ rfl (fun c7 => ?_) (fun c7 => ?_)
      ·
        have p7 := c7
        try simp only [CN] at p7
        have e7 : refJ how a b (refT a b) (k + 1) = refJ how a b (refT a b) k := by rw [refJ, if_pos (show outB how _ _ = true from c7)]
        refine WC.exit (h10_ _ ?_)
        refine WC.region ?_
        refine RG.op _ _ rfl rfl (o_move (.v _) rfl) ?_
        refine RG.op _ _ rfl rfl (o_add rfl rfl (by first | omega | exact ubyte _ | (simp only [LS, len_pcs] <;> omega)) (by first | omega | exact ubyte _ | (simp only [LS, len_pcs] <;> omega))) ?_
        refine RG.op _ _ rfl rfl (o_assign (.v _) rfl) ?_
        refine RG.nil (Exists.intro (k + 1) ⟨by first | omega | (simp only [LS, len_pcs] <;> omega), by first | omega | (simp only [LS, len_pcs] <;> omega), ?_⟩)
        exact .mk' ⟨⟨rfl, .v _⟩, ⟨ow_eq (by rw [e7]), (by first | exact .own _ _ _ _ _ (Nat.le_refl _) | exact .ptr _ _ _ (Nat.le_refl _) | exact .omp _ _ (Nat.le_refl _))⟩, trivial⟩ (by repeat (first | with_reducible exact same_refl _ _ | with_reducible refine same_updO (by with_unfolding_all exact rfl) ?_ | with_reducible refine same_updN ?_ | with_reducible refine same_updL (by with_unfolding_all exact rfl) ?_ | with_reducible refine same_forget (by with_unfolding_all exact rfl) ?_)) (congrArg (fun c => [_, c]) (tb_eq (by rw [e7]) (by rw [e7]))) (by repeat (first | exact trivial | refine And.intro (Nat.le_refl _) ?_ | refine And.intro trivial ?_ | refine And.intro (by show _ ≤ _; (first | omega | (simp only [LS, len_pcs] <;> omega))) ?_)) (by repeat (first | exact trivial | refine And.intro (one_ok (.own _ _ _ _ _ (Nat.le_refl _))) ?_ | refine And.intro (okp (by repeat (first | exact pu_pcs _ | exact pu_tk _ _ | exact pu_dr _ _ | exact pu_bytes _ | exact pu_nil | exact pu_vs rfl | exact pu_map (fun _ => .v _) _ | exact pu_vals _ | refine pu_app ?_ ?_ | refine pu_cons (by exact pu_of rfl) ?_))) ?_))
      ·
        have p7 := c7
        try simp only [CN] at p7
        have e70 : refJ how a b (refT a b) (k + 1) = rejM (refJ how a b (refT a b) k) ((refT a b).getD k 0) ((refT a b).getD (k + 1) 0) := by rw [refJ, if_neg (by rw [show outB how _ _ = false from c7]; exact Bool.false_ne_true)]
        refine WC.skip (h12_ _ ?_)
        refine WC.seq fun Fh14_ h14_ => ?_
        refine WC.seq fun Fh15_ h15_ => ?_
        refine WC.drawn1 (by kernel_rfl) ?_
        refine PG.op _ rfl rfl rfl (by rintro _ rfl; exact o_move (.own _ _ _ _ _) rfl) ?_
        refine PG.op _ rfl rfl rfl (by rintro _ rfl; exact o_len_own rfl Try.underlying22) ?_
        refine PG.op _ rfl rfl rfl (by rintro _ rfl; exact o_gtI rfl rfl) ?_
        refine PG.op _ rfl rfl rfl (by rintro _ rfl; exact o_move (.v _) rfl) ?_
        refine PG.opg1 _ _ _ _ _ rfl rfl rfl rfl rfl rfl (fun hb => (by rintro _ rfl; exact o_move (.own _ _ _ _ _) rfl)) ?_
        refine PG.opg1 _ _ _ _ _ rfl rfl rfl rfl rfl rfl (fun hb => (by rintro _ rfl; exact o_move (.own _ _ _ _ _) rfl)) ?_
        refine PG.opg1 _ _ _ _ _ rfl rfl rfl rfl rfl rfl (fun hb => (by rintro _ rfl; exact o_len_own (gdT hb) Try.underlying22)) ?_
        refine PG.opg1 _ _ _ _ _ rfl rfl rfl rfl rfl rfl (fun hb => (by rintro _ rfl; exact o_sub (gdT hb) rfl (by first | omega | exact ubyte _ | (have hb' := hb; simp only [CN] at hb'; omega) | (simp only [LS, len_pcs] <;> omega) | (have hb' := hb; simp only [CN] at hb'; simp only [LS, len_pcs]; omega)) (by first | omega | exact ubyte _ | (have hb' := hb; simp only [CN] at hb'; omega) | (simp only [LS, len_pcs] <;> omega) | (have hb' := hb; simp only [CN] at hb'; simp only [LS, len_pcs]; omega)))) ?_
        refine PG.opg1 _ _ _ _ _ rfl rfl rfl rfl rfl rfl (fun hb => (by rintro _ rfl; exact o_ixn_own ((refJ how a b (refT a b) k).length - 1) (gdT hb) (gdT hb) Try.underlying22 (sz_of Ty.inf36) (by first | omega | exact ubyte _ | (have hb' := hb; simp only [CN] at hb'; omega) | (simp only [LS, len_pcs] <;> omega) | (have hb' := hb; simp only [CN] at hb'; simp only [LS, len_pcs]; omega)) (by first | omega | exact ubyte _ | (have hb' := hb; simp only [CN] at hb'; omega) | (simp only [LS, len_pcs] <;> omega) | (have hb' := hb; simp only [CN] at hb'; simp only [LS, len_pcs]; omega)))) ?_
        refine PG.opg1 _ _ _ _ _ rfl rfl rfl rfl rfl rfl (fun hb => (by rintro _ rfl; exact o_fld_ptr (gdT hb) Try.underlying36 rfl (sz_of Ty.inf2) (by decide))) ?_
        refine PG.opg1 _ _ _ _ _ rfl rfl rfl rfl rfl rfl (fun hb => (by rintro _ rfl; exact o_load_ptr (b := ⟨(refJ how a b (refT a b) k).flatMap pc, 36, true, (refJ how a b (refT a b) k).length⟩) (d := I64 ((refJ how a b (refT a b) k).getD ((refJ how a b (refT a b) k).length - 1) (0, 0)).2) (gdT hb) Try.underlying2 rfl rfl rfl (pc_get _ _ (by have hb' := hb; simp only [CN] at hb'; omega)).1)) ?_
        refine PG.opg1 _ _ _ _ _ rfl rfl rfl rfl rfl rfl (fun hb => (by rintro _ rfl; exact o_move (.rd _ _) rfl)) ?_
        refine PG.opg1 _ _ _ _ _ rfl rfl rfl rfl rfl rfl (fun hb => (by rintro _ rfl; exact o_move (.v _) rfl)) ?_
        refine PG.opg1 _ _ _ _ _ rfl rfl rfl rfl rfl rfl (fun hb => (by rintro _ rfl; exact o_ixn_MZ (0 : Int) k (gdT hb) (gdT hb) Try.underlying67 (sz_of Ty.inf2) rfl (by omega))) ?_
        refine PG.opg1 _ _ _ _ _ rfl rfl rfl rfl rfl rfl (fun hb => (by rintro _ rfl; exact o_load_adr (gdT hb) Try.underlying2 rfl rfl)) ?_
        refine PG.opg1 _ _ _ _ _ rfl rfl rfl rfl rfl rfl (fun hb => (by rintro _ rfl; exact o_eqI (gdT hb) (gdT hb))) ?_
        refine PG.op _ rfl rfl rfl (by rintro _ rfl; exact o_and _ _ rfl rfl rfl) ?_
        refine PG.nil ⟨by kernel_rfl, rfl, (h15_ _ ?_)⟩
        refine WC.cond _ rfl (fun c8 => ?_) (fun c8 => ?_)
        ·
          have p8 := c8
          try simp only [CN] at p8
          have hk1 : (refJ how a b (refT a b) k).length - 1 < (refJ how a b (refT a b) k).length := by omega
          have e9 := e70.trans (by rw [rejM, if_pos c8])
          refine WC.seq fun Fh16_ h16_ => ?_
          refine WC.region ?_
          refine RG.op _ _ rfl rfl (o_move (.own _ _ _ _ _) rfl) ?_
          refine RG.op _ _ rfl rfl (o_move (.own _ _ _ _ _) rfl) ?_
          refine RG.op _ _ rfl rfl (o_len_own rfl Try.underlying22) ?_
          refine RG.op _ _ rfl rfl (o_sub rfl rfl (by first | omega | exact ubyte _ | (simp only [LS, len_pcs] <;> omega)) (by first | omega | exact ubyte _ | (simp only [LS, len_pcs] <;> omega))) ?_
          refine RG.op _ _ rfl rfl (o_move (.rd _ _) rfl) ?_
          refine RG.op _ _ rfl rfl (o_move (.v _) rfl) ?_
          refine RG.op _ _ rfl rfl (o_add rfl rfl (by first | omega | exact ubyte _ | (simp only [LS, len_pcs] <;> omega)) (by first | omega | exact ubyte _ | (simp only [LS, len_pcs] <;> omega))) ?_
          refine RG.op _ _ rfl rfl (o_ixn_MZ (0 : Int) (k + 1) rfl rfl Try.underlying67 (sz_of Ty.inf2) rfl (by omega)) ?_
          refine RG.op _ _ rfl rfl (o_load_adr rfl Try.underlying2 rfl rfl) ?_
          refine RG.op _ _ rfl rfl (o_ixn_own ((refJ how a b (refT a b) k).length - 1) rfl rfl Try.underlying22 (sz_of Ty.inf36) (by first | omega | exact ubyte _ | (simp only [LS, len_pcs] <;> omega)) (by first | omega | exact ubyte _ | (simp only [LS, len_pcs] <;> omega))) ?_
          refine RG.op _ _ rfl rfl (o_fld_ptr rfl Try.underlying36 rfl (sz_of Ty.inf2) (by decide)) ?_
          refine RG.op _ _ rfl rfl (o_store (d := .v _) rfl rfl rfl rfl (sz_of Ty.inf2) (by show 0 + ((refJ how a b (refT a b) k).length - 1) * 2 + 1 + 1 ≤ ((refJ how a b (refT a b) k).flatMap pc).length; rw [len_pcs]; omega) rfl) ?_
          refine RG.nil (h16_ _ ?_)
          refine WC.exit (h10_ _ ?_)
          refine WC.region ?_
          refine RG.op _ _ rfl rfl (o_move (.v _) rfl) ?_
          refine RG.op _ _ rfl rfl (o_add rfl rfl (by first | omega | exact ubyte _ | (simp only [LS, len_pcs] <;> omega)) (by first | omega | exact ubyte _ | (simp only [LS, len_pcs] <;> omega))) ?_
          refine RG.op _ _ rfl rfl (o_assign (.v _) rfl) ?_
          refine RG.nil (Exists.intro (k + 1) ⟨by first | omega | (simp only [LS, len_pcs] <;> omega), by first | omega | (simp only [LS, len_pcs] <;> omega), ?_⟩)
          exact .mk' ⟨⟨rfl, .v _⟩, ⟨ow_eq (by rw [e9, List.length_set]), (by first | exact .own _ _ _ _ _ (Nat.le_refl _) | exact .ptr _ _ _ (Nat.le_refl _) | exact .omp _ _ (Nat.le_refl _))⟩, trivial⟩ (by repeat (first | with_reducible exact same_refl _ _ | with_reducible refine same_updO (by with_unfolding_all exact rfl) ?_ | with_reducible refine same_updN ?_ | with_reducible refine same_updL (by with_unfolding_all exact rfl) ?_ | with_reducible refine same_forget (by with_unfolding_all exact rfl) ?_)) (congrArg (fun c => [_, c]) (tb_eq (by rw [e9, List.length_set]) (by rw [e9]; exact spl_pc _ _ _ hk1))) (by repeat (first | exact trivial | refine And.intro (Nat.le_refl _) ?_ | refine And.intro trivial ?_ | refine And.intro (by show _ ≤ _; (first | omega | (simp only [LS, len_pcs] <;> omega))) ?_)) (by repeat (first | exact trivial | refine And.intro (one_ok (.own _ _ _ _ _ (Nat.le_refl _))) ?_ | refine And.intro (okp (by repeat (first | exact pu_pcs _ | exact pu_tk _ _ | exact pu_dr _ _ | exact pu_bytes _ | exact pu_nil | exact pu_vs rfl | exact pu_map (fun _ => .v _) _ | exact pu_vals _ | refine pu_app ?_ ?_ | refine pu_cons (by exact pu_of rfl) ?_))) ?_))
        ·
          have p8 := c8
          try simp only [CN] at p8
          have e10 := e70.trans (by rw [rejM, if_neg (by rw [c8]; exact Bool.false_ne_true)])
          refine WC.skip (h14_ _ ?_)
          refine WC.drawn2 (by kernel_rfl) ?_
          refine PG.op _ rfl rfl rfl (fun _ _ => o_move (.own _ _ _ _ _) rfl) ?_
          refine PG.op _ rfl rfl rfl (fun _ _ => o_move (.rd _ _) rfl) ?_
          refine PG.op _ rfl rfl rfl (fun _ _ => o_move (.v _) rfl) ?_
          refine PG.op _ rfl rfl rfl (fun _ _ => o_ixn_MZ (0 : Int) k rfl rfl Try.underlying67 (sz_of Ty.inf2) rfl (by omega)) ?_
          refine PG.op _ rfl rfl rfl (fun _ _ => o_load_adr rfl Try.underlying2 rfl rfl) ?_
          refine PG.op _ rfl rfl rfl (fun _ _ => o_move (.rd _ _) rfl) ?_
          refine PG.op _ rfl rfl rfl (fun _ _ => o_move (.v _) rfl) ?_
          refine PG.op _ rfl rfl rfl (fun _ _ => o_add rfl rfl (by first | omega | exact ubyte _ | (simp only [LS, len_pcs] <;> omega)) (by first | omega | exact ubyte _ | (simp only [LS, len_pcs] <;> omega))) ?_
          refine PG.op _ rfl rfl rfl (fun _ _ => o_ixn_MZ (0 : Int) (k + 1) rfl rfl Try.underlying67 (sz_of Ty.inf2) rfl (by omega)) ?_
          refine PG.op _ rfl rfl rfl (fun _ _ => o_load_adr rfl Try.underlying2 rfl rfl) ?_
          refine PG.op _ rfl rfl rfl (fun _ _ => o_build (cs := [(.v _), (.v _)]) Try.underlying36 Ty.inf36 (Ty.pl36 Try.underlying36) rfl) ?_
          refine PG.op _ rfl rfl rfl (fun _ _ => o_litP (cs := [_, _]) Try.underlying22 Ty.inf36 rfl rfl rfl rfl (by repeat (first | exact pu_pcs _ | exact pu_tk _ _ | exact pu_dr _ _ | exact pu_bytes _ | exact pu_nil | exact pu_vs rfl | exact pu_map (fun _ => .v _) _ | exact pu_vals _ | refine pu_app ?_ ?_ | refine pu_cons (by exact pu_of rfl) ?_))) ?_
          refine PG.opm _ _ rfl rfl rfl (o_appT (Elem.of Try.underlying22 Ty.inf36 rfl (by decide)) rfl rfl rfl (by first | omega | exact ubyte _ | (simp only [LS, len_pcs] <;> omega)) (by first | omega | exact ubyte _ | (simp only [LS, len_pcs] <;> omega)) (by repeat (first | exact bytesD_one _ | exact one_nil | exact one_map (fun _ => rfl) _ | exact one_vals _ | exact one_pcs _ | refine one_app ?_ ?_ | refine one_cons rfl ?_)) (by first | omega | exact ubyte _ | (simp only [LS, len_pcs] <;> omega)) (by first | omega | exact ubyte _ | (simp only [LS, len_pcs] <;> omega))) ?_
          refine PG.op _ rfl rfl rfl (fun _ _ => o_assign (.own _ _ _ _ _) rfl) ?_
          refine PG.nil ⟨by kernel_rfl, trivial, (h10_ _ ?_)⟩
          refine WC.region ?_
          refine RG.op _ _ rfl rfl (o_move (.v _) rfl) ?_
          refine RG.op _ _ rfl rfl (o_add rfl rfl (by first | omega | exact ubyte _ | (simp only [LS, len_pcs] <;> omega)) (by first | omega | exact ubyte _ | (simp only [LS, len_pcs] <;> omega))) ?_
          refine RG.op _ _ rfl rfl (o_assign (.v _) rfl) ?_
          refine RG.nil (Exists.intro (k + 1) ⟨by first | omega | (simp only [LS, len_pcs] <;> omega), by first | omega | (simp only [LS, len_pcs] <;> omega), ?_⟩)
          exact .mk' ⟨⟨rfl, .v _⟩, ⟨ow_eq (by rw [e10, List.length_append]; rfl), (by first | exact .own _ _ _ _ _ (Nat.le_refl _) | exact .ptr _ _ _ (Nat.le_refl _) | exact .omp _ _ (Nat.le_refl _))⟩, trivial⟩ (by repeat (first | with_reducible exact same_refl _ _ | with_reducible refine same_updO (by with_unfolding_all exact rfl) ?_ | with_reducible refine same_updN ?_ | with_reducible refine same_updL (by with_unfolding_all exact rfl) ?_ | with_reducible refine same_forget (by with_unfolding_all exact rfl) ?_)) (congrArg (fun c => [_, c]) (tb_eq (by rw [e10, List.length_append]; rfl) (by rw [e10, List.flatMap_append]; rfl))) (by repeat (first | exact trivial | refine And.intro (Nat.le_refl _) ?_ | refine And.intro trivial ?_ | refine And.intro (by show _ ≤ _; (first | omega | (simp only [LS, len_pcs] <;> omega))) ?_)) (by repeat (first | exact trivial | refine And.intro (one_ok (.own _ _ _ _ _ (Nat.le_refl _))) ?_ | refine And.intro (okp (by repeat (first | exact pu_pcs _ | exact pu_tk _ _ | exact pu_dr _ _ | exact pu_bytes _ | exact pu_nil | exact pu_vs rfl | exact pu_map (fun _ => .v _) _ | exact pu_vals _ | refine pu_app ?_ ?_ | refine pu_cons (by exact pu_of rfl) ?_))) ?_))
    ·
      have p4 := c4
      try simp only [CN] at p4
      refine WC.exit (h4_ _ ?_)
      refine WC.seq fun Fh17_ h17_ => ?_
      have hkl : k = (refT a b).length - 1 := by omega
      refine WC.region ?_
      refine RG.op _ _ rfl rfl (o_move (.own _ _ _ _ _) rfl) ?_
      refine RG.op _ _ rfl rfl (o_assign (.own _ _ _ _ _) rfl) ?_
      refine RG.nil (h17_ _ ?_)
      refine WC.ret ?_
      exact Ends.r1 rfl (.tmp _ (.own _ _ _ _ _) rfl) (.tb rfl (by repeat (first | exact pu_pcs _ | exact pu_tk _ _ | exact pu_dr _ _ | exact pu_bytes _ | exact pu_nil | exact pu_vs rfl | exact pu_map (fun _ => .v _) _ | exact pu_vals _ | refine pu_app ?_ ?_ | refine pu_cons (by exact pu_of rfl) ?_))) (congrArg rdP (by unfold refM; rw [← hkl]))
end Go.Proofs.Ytoekdjdgeleelaa
namespace Go.Proofs.Ytoekdjdgeleelaa
open Go.RowKit Go.DL

set_option maxHeartbeats 4000000 in
theorem rOf_c (l : List Sp) (hl : l.length ≤ 68719476736) : Fun Try.prog 17 [rdP l] (· = rdP (refM 0 l [])) := by
  refine Fun.of Try.func17 rfl (Nat.le_of_ble_eq_true rfl) fun C => ?_
  refine WC.seq fun Fh1_ h1_ => ?_
  refine WC.region ?_
  refine RG.op _ _ rfl rfl (o_assign (.v _) rfl) ?_
  refine RG.nil (h1_ _ ?_)
  refine WC.seq fun Fh2_ h2_ => ?_
  refine WC.region ?_
  refine RG.op _ _ rfl rfl (o_move (.rd _ _) rfl) ?_
  refine RG.op _ _ rfl rfl (o_call (ds := [rdP l, rdP [], I64 0]) Ty.cal47 (of_c 0 l [] hl (Nat.zero_le _)) ⟨.inl rfl, .inr ⟨rfl, rfl⟩, .inl rfl, trivial⟩ (by exact pua rfl)) ?_
  refine RG.op _ _ rfl rfl (o_assign (.rd _ _) rfl) ?_
  refine RG.nil (h2_ _ ?_)
  refine WC.ret ?_
  exact Ends.r1 rfl (.tmp _ (.rd _ _) rfl) (.rd _ _) (rfl)
set_option maxHeartbeats 4000000 in
theorem rOr_c (a b : List Sp) (ha : a.length ≤ 68719476736) (hb : b.length ≤ 68719476736) : Fun Try.prog 19 [rdP a, rdP b] (· = rdP (refM 0 a b)) := by
  refine Fun.of Try.func19 rfl (Nat.le_of_ble_eq_true rfl) fun C => ?_
  refine WC.seq fun Fh1_ h1_ => ?_
  refine WC.region ?_
  refine RG.op _ _ rfl rfl (o_assign (.v _) rfl) ?_
  refine RG.nil (h1_ _ ?_)
  refine WC.seq fun Fh2_ h2_ => ?_
  refine WC.region ?_
  refine RG.op _ _ rfl rfl (o_move (.rd _ _) rfl) ?_
  refine RG.op _ _ rfl rfl (o_move (.rd _ _) rfl) ?_
  refine RG.op _ _ rfl rfl (o_call (ds := [rdP a, rdP b, I64 0]) Ty.cal47 (of_c 0 a b ha hb) ⟨.inl rfl, .inl rfl, .inl rfl, trivial⟩ (by exact pua rfl)) ?_
  refine RG.op _ _ rfl rfl (o_assign (.rd _ _) rfl) ?_
  refine RG.nil (h2_ _ ?_)
  refine WC.ret ?_
  exact Ends.r1 rfl (.tmp _ (.rd _ _) rfl) (.rd _ _) (rfl)
set_option maxHeartbeats 4000000 in
theorem rAnd_c (a b : List Sp) (ha : a.length ≤ 68719476736) (hb : b.length ≤ 68719476736) : Fun Try.prog 21 [rdP a, rdP b] (· = rdP (refM 1 a b)) := by
  refine Fun.of Try.func21 rfl (Nat.le_of_ble_eq_true rfl) fun C => ?_
  refine WC.seq fun Fh1_ h1_ => ?_
  refine WC.region ?_
  refine RG.op _ _ rfl rfl (o_assign (.v _) rfl) ?_
  refine RG.nil (h1_ _ ?_)
  refine WC.seq fun Fh2_ h2_ => ?_
  refine WC.region ?_
  refine RG.op _ _ rfl rfl (o_move (.rd _ _) rfl) ?_
  refine RG.op _ _ rfl rfl (o_move (.rd _ _) rfl) ?_
  refine RG.op _ _ rfl rfl (o_call (ds := [rdP a, rdP b, I64 1]) Ty.cal47 (of_c 1 a b ha hb) ⟨.inl rfl, .inl rfl, .inl rfl, trivial⟩ (by exact pua rfl)) ?_
  refine RG.op _ _ rfl rfl (o_assign (.rd _ _) rfl) ?_
  refine RG.nil (h2_ _ ?_)
  refine WC.ret ?_
  exact Ends.r1 rfl (.tmp _ (.rd _ _) rfl) (.rd _ _) (rfl)
set_option maxHeartbeats 4000000 in
theorem rMinus_c (a b : List Sp) (ha : a.length ≤ 68719476736) (hb : b.length ≤ 68719476736) : Fun Try.prog 23 [rdP a, rdP b] (· = rdP (refM 2 a b)) := by
  refine Fun.of Try.func23 rfl (Nat.le_of_ble_eq_true rfl) fun C => ?_
  refine WC.seq fun Fh1_ h1_ => ?_
  refine WC.region ?_
  refine RG.op _ _ rfl rfl (o_assign (.v _) rfl) ?_
  refine RG.nil (h1_ _ ?_)
  refine WC.seq fun Fh2_ h2_ => ?_
  refine WC.region ?_
  refine RG.op _ _ rfl rfl (o_move (.rd _ _) rfl) ?_
  refine RG.op _ _ rfl rfl (o_move (.rd _ _) rfl) ?_
  refine RG.op _ _ rfl rfl (o_call (ds := [rdP a, rdP b, I64 2]) Ty.cal47 (of_c 2 a b ha hb) ⟨.inl rfl, .inl rfl, .inl rfl, trivial⟩ (by exact pua rfl)) ?_
  refine RG.op _ _ rfl rfl (o_assign (.rd _ _) rfl) ?_
  refine RG.nil (h2_ _ ?_)
  refine WC.ret ?_
  exact Ends.r1 rfl (.tmp _ (.rd _ _) rfl) (.rd _ _) (rfl)
/-- Is a span wrong for a width? -/
def badB (p : Sp) : Bool := decide (p.2 > p.1) && (!boundB p.1 || !boundB p.2)
def rE (n : Int) (l : List Sp) : Int := if widthB n = true then (if l.any badB = true then 7 else 0) else 1
theorem any_stop {l : List Sp} {k : Nat} (h : k < l.length) (c : badB l[k] = true) : l.any badB = true := List.any_eq_true.2 ⟨l[k], List.getElem_mem h, c⟩
theorem any_step {l : List Sp} {k : Nat} (h : k < l.length) (ha : (l.take k).any badB = false) (c : badB l[k] = false) : (l.take (k + 1)).any badB = false := by
  rw [List.take_succ_eq_append_getElem h, List.any_append, ha, List.any_cons, c]; rfl
set_option maxHeartbeats 4000000 in
theorem rwrong_c (l : List Sp) (n : Int) (hl : l.length ≤ 1099511627776) : Fun Try.prog 39 [rdP l, I64 n] (· = I64 (rE n l)) := by
  refine Fun.of Try.func39 rfl (Nat.le_of_ble_eq_true rfl) fun C => ?_
  refine WC.seq fun Fh1_ h1_ => ?_
  refine WC.region ?_
  refine RG.op _ _ rfl rfl (o_assign (.v _) rfl) ?_
  refine RG.nil (h1_ _ ?_)
  refine WC.seq fun Fh2_ h2_ => ?_
  refine WC.seq fun Fh3_ h3_ => ?_
  refine WC.region ?_
  refine RG.op _ _ rfl rfl (o_move (.v _) rfl) ?_
  refine RG.op _ _ rfl rfl (o_call Ty.cal59 (rwidth_c _) ⟨.inl rfl, trivial⟩ (by exact pua rfl)) ?_
  refine RG.op _ _ rfl rfl (o_not rfl) ?_
  refine RG.nil (h3_ _ ?_)
  refine WC.cond _ rfl (fun c1 => ?_) (fun c1 => ?_)
  ·
    have p1 := c1
    try simp only [CN] at p1
    have hw0 : rE n l = 1 := by unfold rE; rw [if_neg (by simpa using c1)]
    refine WC.seq fun Fh4_ h4_ => ?_
    refine WC.region ?_
    refine RG.op _ _ rfl rfl (o_assign (.v _) rfl) ?_
    refine RG.nil (h4_ _ ?_)
    refine WC.ret ?_
    exact Ends.r1 rfl (.tmp _ (.v _) rfl) (.v _) (congrArg I64 hw0.symm)
  ·
    have p1 := c1
    try simp only [CN] at p1
    have hwt : widthB n = true := by simpa using c1
    refine WC.skip (h2_ _ ?_)
    refine WC.seq fun Fh5_ h5_ => ?_
    refine WC.seq fun Fh6_ h6_ => ?_
    refine WC.region ?_
    refine RG.op _ _ rfl rfl (o_assign (.v _) rfl) ?_
    refine RG.nil (h6_ _ ?_)
    refine WC.block ?_
    refine WC.loopU [4, 5, 9, 10, 11, 12, 13, 14, 15, 16, 17, 18, 19, 20, 21, 22, 23, 24, 25, 26, 27, 28, 29, 30, 31, 32, 33, 34, 35, 36, 37, 38, 39, 40, 41, 42, 43] (fun (k : Nat) => [(5, I64 ((k : Nat) : Int))]) (fun (k : Nat) => []) (fun (k : Nat) => k ≤ l.length ∧ (l.take k).any badB = false) (fun (k : Nat) => l.length - k) 0 ⟨Nat.zero_le _, rfl⟩ ?lpa7_ ?lpb8_
    case lpa7_ =>
      exact .mk' ⟨⟨rfl, .v _⟩, trivial⟩ (same_refl _ _) (rfl) (by repeat (first | exact trivial | refine And.intro (Nat.le_refl _) ?_ | refine And.intro trivial ?_ | refine And.intro (by show _ ≤ _; (first | omega | (simp only [LS, len_pcs] <;> omega))) ?_)) (by repeat (first | exact trivial | refine And.intro (one_ok (.own _ _ _ _ _ (Nat.le_refl _))) ?_ | refine And.intro (okp (by repeat (first | exact pu_pcs _ | exact pu_bytes _ | exact pu_nil | exact pu_vs rfl | exact pu_map (fun _ => .v _) _ | exact pu_vals _ | refine pu_app ?_ ?_ | refine pu_cons (by exact pu_of rfl) ?_))) ?_))
    case lpb8_ =>
      rintro k hI
      have hI1 := hI.1
      have hI2 := hI.2
      refine WC.seq fun Fh9_ h9_ => ?_
      refine WC.seq fun Fh10_ h10_ => ?_
      refine WC.region ?_
      refine RG.op _ _ rfl rfl (o_move (.v _) rfl) ?_
      refine RG.op _ _ rfl rfl (o_move (.rd _ _) rfl) ?_
      refine RG.op _ _ rfl rfl (o_len_rd rfl Try.underlying22) ?_
      refine RG.op _ _ rfl rfl (o_ltI rfl rfl) ?_
      refine RG.nil (h10_ _ ?_)
      refine WC.cond _ rfl (fun c4 => ?_) (fun c4 => ?_)
      ·
        have p4 := c4
        try simp only [CN] at p4
        have hkl : k < l.length := by omega
        have eg : l.getD k (0, 0) = l[k] := getD_is hkl
        refine WC.skip (h9_ _ ?_)
        refine WC.seq fun Fh11_ h11_ => ?_
        refine WC.block ?_
        refine WC.seq fun Fh12_ h12_ => ?_
        refine WC.drawn1 (by kernel_rfl) ?_
        refine PG.op _ rfl rfl rfl (by rintro _ rfl; exact o_move (.rd _ _) rfl) ?_
        refine PG.op _ rfl rfl rfl (by rintro _ rfl; exact o_move (.v _) rfl) ?_
        refine PG.op _ rfl rfl rfl (by rintro _ rfl; exact o_ixn_LZ (l := l) (f := pc) (0, 0) k pc_len rfl rfl rfl Try.underlying22 (sz_of Ty.inf36) rfl hkl) ?_
        refine PG.op _ rfl rfl rfl (by rintro _ rfl; exact o_fld_adr rfl Try.underlying36 rfl (sz_of Ty.inf2) (by decide)) ?_
        refine PG.op _ rfl rfl rfl (by rintro _ rfl; exact o_load_adr rfl Try.underlying2 rfl rfl) ?_
        refine PG.op _ rfl rfl rfl (by rintro _ rfl; exact o_move (.rd _ _) rfl) ?_
        refine PG.op _ rfl rfl rfl (by rintro _ rfl; exact o_move (.v _) rfl) ?_
        refine PG.op _ rfl rfl rfl (by rintro _ rfl; exact o_ixn_LZ (l := l) (f := pc) (0, 0) k pc_len rfl rfl rfl Try.underlying22 (sz_of Ty.inf36) rfl hkl) ?_
        refine PG.op _ rfl rfl rfl (by rintro _ rfl; exact o_fld_adr rfl Try.underlying36 rfl (sz_of Ty.inf2) (by decide)) ?_
        refine PG.op _ rfl rfl rfl (by rintro _ rfl; exact o_load_adr rfl Try.underlying2 rfl rfl) ?_
        refine PG.op _ rfl rfl rfl (by rintro _ rfl; exact o_gtI rfl rfl) ?_
        refine PG.op _ rfl rfl rfl (by rintro _ rfl; exact o_move (.v _) rfl) ?_
        refine PG.opg1 _ _ _ _ _ rfl rfl rfl rfl rfl rfl (fun hb => (by rintro _ rfl; exact o_move (.rd _ _) rfl)) ?_
        refine PG.opg1 _ _ _ _ _ rfl rfl rfl rfl rfl rfl (fun hb => (by rintro _ rfl; exact o_move (.v _) rfl)) ?_
        refine PG.opg1 _ _ _ _ _ rfl rfl rfl rfl rfl rfl (fun hb => (by rintro _ rfl; exact o_ixn_LZ (l := l) (f := pc) (0, 0) k pc_len rfl (gdT hb) (gdT hb) Try.underlying22 (sz_of Ty.inf36) rfl hkl)) ?_
        refine PG.opg1 _ _ _ _ _ rfl rfl rfl rfl rfl rfl (fun hb => (by rintro _ rfl; exact o_fld_adr (gdT hb) Try.underlying36 rfl (sz_of Ty.inf2) (by decide))) ?_
        refine PG.opg1 _ _ _ _ _ rfl rfl rfl rfl rfl rfl (fun hb => (by rintro _ rfl; exact o_load_adr (gdT hb) Try.underlying2 rfl rfl)) ?_
        refine PG.opg1 _ _ _ _ _ rfl rfl rfl rfl rfl rfl (fun hb => (by rintro _ rfl; exact o_call Ty.cal60 (rbound_c _) ⟨.inl (gdT hb), trivial⟩ (by exact pua rfl))) ?_
        refine PG.opg1 _ _ _ _ _ rfl rfl rfl rfl rfl rfl (fun hb => (by rintro _ rfl; exact o_not (gdT hb))) ?_
        refine PG.opg1 _ _ _ _ _ rfl rfl rfl rfl rfl rfl (fun hb => (by rintro _ rfl; exact o_move (.v _) (gdT hb))) ?_
        refine PG.opg2 _ _ _ _ _ _ rfl rfl rfl rfl rfl rfl (fun hb => (by rintro _ rfl; exact o_move (.rd _ _) rfl)) ?_
        refine PG.opg2 _ _ _ _ _ _ rfl rfl rfl rfl rfl rfl (fun hb => (by rintro _ rfl; exact o_move (.v _) rfl)) ?_
        refine PG.opg2 _ _ _ _ _ _ rfl rfl rfl rfl rfl rfl (fun hb => (by rintro _ rfl; exact o_ixn_LZ (l := l) (f := pc) (0, 0) k pc_len rfl (gdT hb) (gdT hb) Try.underlying22 (sz_of Ty.inf36) rfl hkl)) ?_
        refine PG.opg2 _ _ _ _ _ _ rfl rfl rfl rfl rfl rfl (fun hb => (by rintro _ rfl; exact o_fld_adr (gdT hb) Try.underlying36 rfl (sz_of Ty.inf2) (by decide))) ?_
        refine PG.opg2 _ _ _ _ _ _ rfl rfl rfl rfl rfl rfl (fun hb => (by rintro _ rfl; exact o_load_adr (gdT hb) Try.underlying2 rfl rfl)) ?_
        refine PG.opg2 _ _ _ _ _ _ rfl rfl rfl rfl rfl rfl (fun hb => (by rintro _ rfl; exact o_call Ty.cal60 (rbound_c _) ⟨.inl (gdT hb), trivial⟩ (by exact pua rfl))) ?_
        refine PG.opg2 _ _ _ _ _ _ rfl rfl rfl rfl rfl rfl (fun hb => (by rintro _ rfl; exact o_not (gdT hb))) ?_
        refine PG.opg1 _ _ _ _ _ rfl rfl rfl rfl rfl rfl (fun hb => (by rintro _ rfl; exact o_or _ _ (gdT hb) rfl (gdS hb))) ?_
        refine PG.op _ rfl rfl rfl (by rintro _ rfl; exact o_and _ _ rfl rfl rfl) ?_
        refine PG.nil ⟨by kernel_rfl, rfl, (h12_ _ ?_)⟩
        refine WC.cond _ rfl (fun c6 => ?_) (fun c6 => ?_)
        ·
          have p6 := c6
          try simp only [CN] at p6
          have hb6 : badB l[k] = true := by rw [← eg]; exact c6
          refine WC.seq fun Fh13_ h13_ => ?_
          refine WC.region ?_
          refine RG.op _ _ rfl rfl (o_assign (.v _) rfl) ?_
          refine RG.nil (h13_ _ ?_)
          refine WC.ret ?_
          exact Ends.r1 rfl (.tmp _ (.v _) rfl) (.v _) (congrArg I64 (by unfold rE; rw [if_pos hwt, if_pos (any_stop hkl hb6)]))
        ·
          have p6 := c6
          try simp only [CN] at p6
          have hb6 : badB l[k] = false := by rw [← eg]; exact c6
          refine WC.skip (h11_ _ ?_)
          refine WC.region ?_
          refine RG.op _ _ rfl rfl (o_move (.v _) rfl) ?_
          refine RG.op _ _ rfl rfl (o_add rfl rfl (by first | omega | exact ubyte _ | (simp only [LS, len_pcs] <;> omega)) (by first | omega | exact ubyte _ | (simp only [LS, len_pcs] <;> omega))) ?_
          refine RG.op _ _ rfl rfl (o_assign (.v _) rfl) ?_
          refine RG.nil (Exists.intro (k + 1) ⟨⟨by omega, any_step hkl hI2 hb6⟩, by first | omega | (simp only [LS, len_pcs] <;> omega), ?_⟩)
          exact .mk' ⟨⟨rfl, .v _⟩, trivial⟩ (by repeat (first | with_reducible exact same_refl _ _ | with_reducible refine same_updO (by with_unfolding_all exact rfl) ?_ | with_reducible refine same_updN ?_ | with_reducible refine same_updL (by with_unfolding_all exact rfl) ?_ | with_reducible refine same_forget (by with_unfolding_all exact rfl) ?_)) (rfl) (by repeat (first | exact trivial | refine And.intro (Nat.le_refl _) ?_ | refine And.intro trivial ?_ | refine And.intro (by show _ ≤ _; (first | omega | (simp only [LS, len_pcs] <;> omega))) ?_)) (by repeat (first | exact trivial | refine And.intro (one_ok (.own _ _ _ _ _ (Nat.le_refl _))) ?_ | refine And.intro (okp (by repeat (first | exact pu_pcs _ | exact pu_bytes _ | exact pu_nil | exact pu_vs rfl | exact pu_map (fun _ => .v _) _ | exact pu_vals _ | refine pu_app ?_ ?_ | refine pu_cons (by exact pu_of rfl) ?_))) ?_))
      ·
        have p4 := c4
        try simp only [CN] at p4
        refine WC.exit (h5_ _ ?_)
        refine WC.seq fun Fh14_ h14_ => ?_
        refine WC.region ?_
        refine RG.op _ _ rfl rfl (o_assign (.v _) rfl) ?_
        refine RG.nil (h14_ _ ?_)
        refine WC.ret ?_
        exact Ends.r1 rfl (.tmp _ (.v _) rfl) (.v _) (congrArg I64 (by rw [List.take_of_length_le (by omega)] at hI2; unfold rE; rw [if_pos hwt, if_neg (by rw [hI2]; exact Bool.false_ne_true)]))
end Go.Proofs.Ytoekdjdgeleelaa
namespace Go.Proofs.Ytoekdjdgeleelaa
open Go.RowKit Go.DL

def Mem10 (l : List Sp) (t : Int) : Prop := ∃ p ∈ l, p.1 ≤ t ∧ t < p.2
theorem hasL_iff {l : List Sp} {t : Int} : hasL l t = true ↔ Mem10 l t := by
  unfold hasL Mem10
  simp [List.any_eq_true]
theorem hasL_ext {l m : List Sp} {t : Int} : hasL l t = hasL m t ↔ (Mem10 l t ↔ Mem10 m t) := by
  rw [Bool.eq_iff_iff, hasL_iff, hasL_iff]
structure InForm (l : List Sp) : Prop where
  ne : ∀ p ∈ l, p.1 < p.2
  gap : l.Pairwise fun p q => p.2 < q.1
theorem InForm.nil : InForm [] := ⟨by simp, .nil⟩
theorem InForm.tail {p : Sp} {l : List Sp} (h : InForm (p :: l)) : InForm l := ⟨fun q hq => h.ne q (by simp [hq]), (List.pairwise_cons.1 h.gap).2⟩
theorem Mem10.cons {p : Sp} {l : List Sp} {t : Int} : Mem10 (p :: l) t ↔ (p.1 ≤ t ∧ t < p.2) ∨ Mem10 l t := by
  unfold Mem10; simp
theorem Mem10.app {l m : List Sp} {t : Int} : Mem10 (l ++ m) t ↔ Mem10 l t ∨ Mem10 m t := by
  unfold Mem10
  simp only [List.mem_append]
  constructor
  · rintro ⟨p, h | h, h2⟩
    · exact .inl ⟨p, h, h2⟩
    · exact .inr ⟨p, h, h2⟩
  · rintro (⟨p, h, h2⟩ | ⟨p, h, h2⟩)
    · exact ⟨p, .inl h, h2⟩
    · exact ⟨p, .inr h, h2⟩
theorem Mem10.nil {t : Int} : ¬ Mem10 [] t := by rintro ⟨p, h, _⟩; simp at h
theorem Mem10.late {p : Sp} {l : List Sp} (h : InForm (p :: l)) {t : Int} (hm : Mem10 l t) : p.2 < t := by
  obtain ⟨q, hq, h1, _⟩ := hm
  have := (List.pairwise_cons.1 h.gap).1 q hq
  omega
theorem form_uniq : ∀ {a b : List Sp}, InForm a → InForm b → (∀ t, Mem10 a t ↔ Mem10 b t) → a = b
  | [], [], _, _, _ => rfl
  | [], q :: b, _, hb, h => by
    have := (h q.1).2 (Mem10.cons.2 (.inl ⟨Int.le_refl _, hb.ne q (by simp)⟩))
    exact (Mem10.nil this).elim
  | p :: a, [], ha, _, h => by
    have := (h p.1).1 (Mem10.cons.2 (.inl ⟨Int.le_refl _, ha.ne p (by simp)⟩))
    exact (Mem10.nil this).elim
  | p :: a, q :: b, ha, hb, h => by
    have np := ha.ne p (by simp)
    have nq := hb.ne q (by simp)
    have low : ∀ {p q : Sp} {a b : List Sp}, InForm (q :: b) → p.1 < p.2 → (∀ t, Mem10 (p :: a) t ↔ Mem10 (q :: b) t) → q.1 ≤ p.1 := fun {p q a b} hb np h => by
      rcases Mem10.cons.1 ((h p.1).1 (Mem10.cons.2 (.inl ⟨Int.le_refl _, np⟩))) with h1 | h1
      · exact h1.1
      · have := Mem10.late hb h1
        have := hb.ne q (by simp)
        omega
    have e1 : p.1 = q.1 := by
      have := low hb np h
      have := low ha nq fun t => (h t).symm
      omega
    have high : ∀ {p q : Sp} {a b : List Sp}, InForm (p :: a) → p.1 = q.1 → (∀ t, Mem10 (p :: a) t ↔ Mem10 (q :: b) t) → q.2 ≤ p.2 := fun {p q a b} ha e1 h => by
      rcases Int.lt_or_le p.2 q.2 with h1 | h1
      · have np := ha.ne p (by simp)
        have := (h p.2).2 (Mem10.cons.2 (.inl ⟨by omega, h1⟩))
        rcases Mem10.cons.1 this with h2 | h2
        · omega
        · have := Mem10.late ha h2; omega
      · exact h1
    have e2 : p.2 = q.2 := by
      have := high ha e1 h
      have := high hb e1.symm fun t => (h t).symm
      omega
    have e : p = q := Prod.ext e1 e2
    subst e
    have := form_uniq ha.tail hb.tail fun t => by
      constructor
      · intro hm
        have h1 := Mem10.late ha hm
        rcases Mem10.cons.1 ((h t).1 (Mem10.cons.2 (.inr hm))) with h2 | h2
        · omega
        · exact h2
      · intro hm
        have h1 := Mem10.late hb hm
        rcases Mem10.cons.1 ((h t).2 (Mem10.cons.2 (.inr hm))) with h2 | h2
        · omega
        · exact h2
    rw [this]
theorem form_eq {a b : List Sp} (ha : InForm a) (hb : InForm b) : a = b ↔ ∀ t, hasL a t = hasL b t :=
  ⟨fun h _ => by rw [h], fun h => form_uniq ha hb fun t => hasL_ext.1 (h t)⟩
/-! ### What joins -/
theorem joinM_nil (s : Sp) : joinM [] s = [s] := by unfold joinM; simp
theorem joinM_snoc (I : List Sp) (q s : Sp) : joinM (I ++ [q]) s = if q.2 ≥ s.1 then I ++ [(q.1, if s.2 > q.2 then s.2 else q.2)] else I ++ [q] ++ [s] := by
  have hl : (I ++ [q]).length - 1 = I.length := by simp
  have hg : (I ++ [q]).getD I.length (0, 0) = q := by simp
  unfold joinM
  rw [hl, hg]
  by_cases h : q.2 ≥ s.1
  · rw [if_pos h, if_pos (by simp; exact h)]
    simp
  · rw [if_neg h, if_neg (by simp; omega)]
theorem InForm.snoc {I : List Sp} {q : Sp} : InForm (I ++ [q]) ↔ InForm I ∧ q.1 < q.2 ∧ ∀ p ∈ I, p.2 < q.1 := by
  constructor
  · rintro ⟨h1, h2⟩
    have h3 := List.pairwise_append.1 h2
    exact ⟨⟨fun p hp => h1 p (by simp [hp]), h3.1⟩, h1 q (by simp), fun p hp => h3.2.2 p hp q (by simp)⟩
  · rintro ⟨⟨h1, h2⟩, h3, h4⟩
    refine ⟨fun p hp => ?_, List.pairwise_append.2 ⟨h2, by simp, fun p hp r hr => ?_⟩⟩
    · rcases List.mem_append.1 hp with h | h
      · exact h1 p h
      · rw [List.mem_singleton] at h; subst h; exact h3
    · rw [List.mem_singleton] at hr; subst hr; exact h4 p hp
theorem snoc_cases {α : Type} (l : List α) : l = [] ∨ ∃ I q, l = I ++ [q] := by
  rcases List.eq_nil_or_concat l with h | ⟨I, q, h⟩
  · exact .inl h
  · exact .inr ⟨I, q, by rw [h, List.concat_eq_append]⟩
theorem join_ok {J : List Sp} {s : Sp} (hJ : InForm J) (hq : ∀ q ∈ J, q.1 ≤ s.1) (hs : s.1 < s.2) : InForm (joinM J s) ∧ (∀ t, Mem10 (joinM J s) t ↔ Mem10 J t ∨ (s.1 ≤ t ∧ t < s.2)) ∧ (∀ q ∈ joinM J s, q.1 ≤ s.1) ∧
    (∀ q ∈ joinM J s, ∃ x y, x ∈ s :: J ∧ y ∈ s :: J ∧ q.1 = x.1 ∧ q.2 = y.2) := by
  rcases snoc_cases J with rfl | ⟨I, q, rfl⟩
  · rw [joinM_nil]
    refine ⟨⟨by simp; exact hs, by simp⟩, fun t => ?_, by simp, ?_⟩
    · rw [Mem10.cons]
      constructor
      · rintro (h | h)
        · exact .inr h
        · exact (Mem10.nil h).elim
      · rintro (h | h)
        · exact (Mem10.nil h).elim
        · exact .inl h
    · intro p hp
      rw [List.mem_singleton] at hp; subst hp
      exact ⟨p, p, by simp, by simp, rfl, rfl⟩
  · obtain ⟨hI, hq2, hI2⟩ := InForm.snoc.1 hJ
    have hq1 := hq q (by simp)
    rw [joinM_snoc]
    by_cases h : q.2 ≥ s.1
    · rw [if_pos h]
      have hm : q.2 ≤ (if s.2 > q.2 then s.2 else q.2) ∧ s.2 ≤ (if s.2 > q.2 then s.2 else q.2) ∧ ((if s.2 > q.2 then s.2 else q.2) = q.2 ∨ (if s.2 > q.2 then s.2 else q.2) = s.2) := by split <;> omega
      refine ⟨InForm.snoc.2 ⟨hI, by show q.1 < _; omega, hI2⟩, fun t => ?_, fun p hp => ?_, fun p hp => ?_⟩
      · rw [Mem10.app, Mem10.app, Mem10.cons, Mem10.cons]
        have n1 : ¬ Mem10 [] t := Mem10.nil
        constructor
        · rintro (h1 | ⟨h1, h2⟩ | h1)
          · exact .inl (.inl h1)
          · simp only at h1 h2
            by_cases h3 : t < q.2
            · exact .inl (.inr (.inl ⟨h1, h3⟩))
            · exact .inr ⟨by omega, by rcases hm.2.2 with e | e <;> omega⟩
          · exact (n1 h1).elim
        · rintro ((h1 | h1 | h1) | h1)
          · exact .inl h1
          · exact .inr (.inl ⟨h1.1, by show t < _; omega⟩)
          · exact (n1 h1).elim
          · exact .inr (.inl ⟨by show q.1 ≤ t; omega, by show t < _; omega⟩)
      · rcases List.mem_append.1 hp with h1 | h1
        · exact hq p (by simp [h1])
        · rw [List.mem_singleton] at h1; subst h1; exact hq1
      · rcases List.mem_append.1 hp with h1 | h1
        · exact ⟨p, p, by simp [h1], by simp [h1], rfl, rfl⟩
        · rw [List.mem_singleton] at h1; subst h1
          rcases hm.2.2 with e | e
          · exact ⟨q, q, by simp, by simp, rfl, e⟩
          · exact ⟨q, s, by simp, by simp, rfl, e⟩
    · rw [if_neg h]
      refine ⟨InForm.snoc.2 ⟨hJ, hs, fun p hp => ?_⟩, fun t => ?_, fun p hp => ?_, fun p hp => ?_⟩
      · rcases List.mem_append.1 hp with h1 | h1
        · have := hI2 p h1; omega
        · rw [List.mem_singleton] at h1; subst h1; omega
      · rw [Mem10.app (m := [s]), Mem10.cons]
        have n1 : ¬ Mem10 [] t := Mem10.nil
        constructor
        · rintro (h1 | h1 | h1)
          · exact .inl h1
          · exact .inr h1
          · exact (n1 h1).elim
        · rintro (h1 | h1)
          · exact .inl h1
          · exact .inr (.inl h1)
      · rcases List.mem_append.1 hp with h1 | h1
        · exact hq p h1
        · rw [List.mem_singleton] at h1; subst h1; exact Int.le_refl _
      · refine ⟨p, p, ?_, ?_, rfl, rfl⟩ <;> (rcases List.mem_append.1 hp with h1 | h1; (exact List.mem_cons_of_mem _ h1); (rw [List.mem_singleton] at h1; subst h1; simp))
/-! ### Of -/
theorem fold_ok : ∀ (S J : List Sp), InForm J → (∀ p ∈ S, p.1 < p.2) → (∀ q ∈ J, ∀ p ∈ S, q.1 ≤ p.1) → S.Pairwise (fun p q => p.1 ≤ q.1) →
    InForm (S.foldl joinM J) ∧ (∀ t, Mem10 (S.foldl joinM J) t ↔ Mem10 J t ∨ Mem10 S t) ∧ (∀ q ∈ S.foldl joinM J, ∃ x y, x ∈ J ++ S ∧ y ∈ J ++ S ∧ q.1 = x.1 ∧ q.2 = y.2)
  | [], J, hJ, _, _, _ => by
    refine ⟨hJ, fun t => ⟨.inl, fun h => h.elim id fun h => (Mem10.nil h).elim⟩, fun q hq => ⟨q, q, by simpa using hq, by simpa using hq, rfl, rfl⟩⟩
  | s :: S, J, hJ, hn, hq, hp => by
    obtain ⟨h1, h2, h3, h4⟩ := join_ok hJ (fun q h => hq q h s (by simp)) (hn s (by simp))
    have hp' := List.pairwise_cons.1 hp
    obtain ⟨k1, k2, k3⟩ := fold_ok S (joinM J s) h1 (fun p h => hn p (by simp [h])) (fun q h p h' => Int.le_trans (h3 q h) (hp'.1 p h')) hp'.2
    refine ⟨k1, fun t => ?_, fun q h => ?_⟩
    · rw [List.foldl_cons, k2 t, h2 t, Mem10.cons, or_assoc]
    · rw [List.foldl_cons] at h
      obtain ⟨x, y, hx, hy, e1, e2⟩ := k3 q h
      have sub : ∀ z, z ∈ joinM J s ++ S → ∃ x y, x ∈ J ++ s :: S ∧ y ∈ J ++ s :: S ∧ z.1 = x.1 ∧ z.2 = y.2 := fun z hz => by
        rcases List.mem_append.1 hz with h | h
        · obtain ⟨x, y, hx, hy, e1, e2⟩ := h4 z h
          refine ⟨x, y, ?_, ?_, e1, e2⟩
          · rcases List.mem_cons.1 hx with rfl | h
            · simp
            · simp [h]
          · rcases List.mem_cons.1 hy with rfl | h
            · simp
            · simp [h]
        · exact ⟨z, z, by simp [h], by simp [h], rfl, rfl⟩
      obtain ⟨x1, _, a1, _, b1, _⟩ := sub x hx
      obtain ⟨_, y1, _, a2, _, b2⟩ := sub y hy
      exact ⟨x1, y1, a1, a2, e1.trans b1, e2.trans b2⟩
theorem neP_iff {p : Sp} : neP p = true ↔ p.1 < p.2 := by unfold neP emptyB; simp
theorem ofM_ok (l : List Sp) : InForm (ofM l) ∧ (∀ t, Mem10 (ofM l) t ↔ Mem10 l t) ∧ (∀ q ∈ ofM l, ∃ x y, x ∈ l ∧ y ∈ l ∧ x.1 < x.2 ∧ y.1 < y.2 ∧ q.1 = x.1 ∧ q.2 = y.2) := by
  have hperm := sortP_perm (l.filter neP)
  have hmem : ∀ p, p ∈ sortP (l.filter neP) ↔ p ∈ l ∧ p.1 < p.2 := fun p => by rw [hperm.mem_iff, List.mem_filter, neP_iff]
  have hsort : (sortP (l.filter neP)).Pairwise (fun p q => p.1 ≤ q.1) := by
    rw [List.pairwise_iff_getElem]
    intro i j hi hj hij
    exact sortP_le _ i j hij hj
  obtain ⟨h1, h2, h3⟩ := fold_ok (sortP (l.filter neP)) [] InForm.nil (fun p h => ((hmem p).1 h).2) (by simp) hsort
  refine ⟨h1, fun t => ?_, fun q hq => ?_⟩
  · unfold ofM foldJ
    rw [h2 t]
    constructor
    · rintro (h | ⟨p, hp, h⟩)
      · exact (Mem10.nil h).elim
      · exact ⟨p, ((hmem p).1 hp).1, h⟩
    · rintro ⟨p, hp, h⟩
      exact .inr ⟨p, (hmem p).2 ⟨hp, by omega⟩, h⟩
  · obtain ⟨x, y, hx, hy, e1, e2⟩ := h3 q hq
    rw [List.nil_append] at hx hy
    have hx := (hmem x).1 hx
    have hy := (hmem y).1 hy
    exact ⟨x, y, hx.1, hy.1, hx.2, hy.2, e1, e2⟩
end Go.Proofs.Ytoekdjdgeleelaa
namespace Go.Proofs.Ytoekdjdgeleelaa
open Go.RowKit Go.DL

def StrictT (T : List Int) : Prop := T.Pairwise (· < ·)
theorem T_getD {T : List Int} {i : Nat} (h : i < T.length) : T.getD i 0 = T[i] := by rw [List.getD_eq_getElem?_getD, List.getElem?_eq_getElem h]; rfl
theorem T_lt {T : List Int} (h : StrictT T) {i j : Nat} (hij : i < j) (hj : j < T.length) : T.getD i 0 < T.getD j 0 := by
  rw [T_getD hj, T_getD (by omega)]
  exact List.pairwise_iff_getElem.1 h i j (by omega) hj hij
theorem T_le {T : List Int} (h : StrictT T) {i j : Nat} (hij : i ≤ j) (hj : j < T.length) : T.getD i 0 ≤ T.getD j 0 := by
  rcases Nat.lt_or_ge i j with h1 | h1
  · exact Int.le_of_lt (T_lt h h1 hj)
  · rw [show i = j by omega]; exact Int.le_refl _
theorem T_at {T : List Int} {x : Int} (hx : x ∈ T) : ∃ i, i < T.length ∧ T.getD i 0 = x := by
  obtain ⟨i, hi, h⟩ := List.getElem_of_mem hx
  exact ⟨i, hi, by rw [T_getD hi]; exact h⟩
/-- The set behind k pieces, of those times of which f is true. -/
def pJ (f : Int → Bool) (T : List Int) : Nat → List Sp
  | 0 => []
  | k + 1 => if f (T.getD k 0) = true then joinM (pJ f T k) (T.getD k 0, T.getD (k + 1) 0) else pJ f T k
theorem joinM_hi {J : List Sp} {x y : Int} (h : ∀ q ∈ J, q.2 ≤ x) (hxy : x < y) : ∀ q ∈ joinM J (x, y), q.2 ≤ y := by
  intro p hp
  rcases snoc_cases J with rfl | ⟨I, q, rfl⟩
  · rw [joinM_nil, List.mem_singleton] at hp; subst hp; exact Int.le_refl _
  · have hq := h q (by simp)
    rw [joinM_snoc] at hp
    split at hp
    · rcases List.mem_append.1 hp with h1 | h1
      · have := h p (by simp [h1]); omega
      · rw [List.mem_singleton] at h1; subst h1
        show (if y > q.2 then y else q.2) ≤ y
        split <;> omega
    · rcases List.mem_append.1 hp with h1 | h1
      · have := h p h1; omega
      · rw [List.mem_singleton] at h1; subst h1; exact Int.le_refl _
theorem pJ_hi {f : Int → Bool} {T : List Int} (hT : StrictT T) : ∀ k, k + 1 ≤ T.length → ∀ q ∈ pJ f T k, q.2 ≤ T.getD k 0
  | 0, _, q, hq => by simp [pJ] at hq
  | k + 1, h, q, hq => by
    have ih := pJ_hi (f := f) hT k (by omega)
    have hlt := T_lt hT (show k < k + 1 by omega) (by omega)
    rw [pJ] at hq
    split at hq
    · exact joinM_hi ih hlt q hq
    · have := ih q hq; omega
theorem pJ_ok {f : Int → Bool} {T : List Int} (hT : StrictT T) (hc : ∀ k, k + 1 < T.length → ∀ t, T.getD k 0 ≤ t → t < T.getD (k + 1) 0 → f t = f (T.getD k 0)) (hlo : ∀ t, t < T.getD 0 0 → f t = false) :
    ∀ k, k + 1 ≤ T.length → InForm (pJ f T k) ∧ ∀ t, Mem10 (pJ f T k) t ↔ f t = true ∧ t < T.getD k 0
  | 0, _ => ⟨InForm.nil, fun t => ⟨fun h => (Mem10.nil h).elim, fun ⟨h1, h2⟩ => by rw [hlo t h2] at h1; cases h1⟩⟩
  | k + 1, h => by
    obtain ⟨i1, i2⟩ := pJ_ok hT hc hlo k (by omega)
    have hhi := pJ_hi (f := f) hT k (by omega)
    have hlt := T_lt hT (show k < k + 1 by omega) (by omega)
    have step : ∀ t, (f t = true ∧ t < T.getD (k + 1) 0) ↔ (f t = true ∧ t < T.getD k 0) ∨ (f (T.getD k 0) = true ∧ T.getD k 0 ≤ t ∧ t < T.getD (k + 1) 0) := fun t => by
      constructor
      · rintro ⟨h1, h2⟩
        by_cases h3 : t < T.getD k 0
        · exact .inl ⟨h1, h3⟩
        · exact .inr ⟨by rw [← hc k (by omega) t (by omega) h2]; exact h1, by omega, h2⟩
      · rintro (⟨h1, h2⟩ | ⟨h1, h2, h3⟩)
        · exact ⟨h1, by omega⟩
        · exact ⟨by rw [hc k (by omega) t h2 h3]; exact h1, h3⟩
    rw [pJ]
    split
    · rename_i hf
      have nq : ∀ q ∈ pJ f T k, q.1 ≤ T.getD k 0 := fun q hq => by have := hhi q hq; have := i1.ne q hq; omega
      obtain ⟨j1, j2, _⟩ := join_ok (s := (T.getD k 0, T.getD (k + 1) 0)) i1 nq hlt
      refine ⟨j1, fun t => ?_⟩
      rw [j2 t, i2 t, step t]
      simp only [hf, true_and]
    · rename_i hf
      refine ⟨i1, fun t => ?_⟩
      rw [i2 t, step t]
      exact ⟨.inl, fun h => h.elim id fun h => absurd h.1 hf⟩
def EndsIn (l : List Sp) (T : List Int) : Prop := ∀ p ∈ l, p.1 < p.2 → p.1 ∈ T ∧ p.2 ∈ T
theorem ends_const {l : List Sp} {T : List Int} (hE : EndsIn l T) (hT : StrictT T) {k : Nat} (hk : k + 1 < T.length) {t : Int} (h1 : T.getD k 0 ≤ t) (h2 : t < T.getD (k + 1) 0) : hasL l t = hasL l (T.getD k 0) := by
  rw [Bool.eq_iff_iff, hasL_iff, hasL_iff]
  constructor
  · rintro ⟨p, hp, a, b⟩
    obtain ⟨e1, e2⟩ := hE p hp (by omega)
    obtain ⟨i, hi, e1⟩ := T_at e1
    refine ⟨p, hp, ?_, by omega⟩
    have : i ≤ k := by
      rcases Nat.lt_or_ge k i with h | h
      · have := T_le hT (show k + 1 ≤ i by omega) hi; omega
      · exact h
    have := T_le hT this (by omega)
    omega
  · rintro ⟨p, hp, a, b⟩
    obtain ⟨e1, e2⟩ := hE p hp (by omega)
    obtain ⟨j, hj, e2⟩ := T_at e2
    refine ⟨p, hp, by omega, ?_⟩
    have : k + 1 ≤ j := by
      rcases Nat.lt_or_ge j (k + 1) with h | h
      · have := T_le hT (show j ≤ k by omega) (by omega); omega
      · exact h
    have := T_le hT this hj
    omega
theorem ends_lo {l : List Sp} {T : List Int} (hE : EndsIn l T) (hT : StrictT T) {t : Int} (h : t < T.getD 0 0) : hasL l t = false := by
  rw [Bool.eq_false_iff]
  intro hm
  obtain ⟨p, hp, a, b⟩ := hasL_iff.1 hm
  obtain ⟨e1, _⟩ := hE p hp (by omega)
  obtain ⟨i, hi, e1⟩ := T_at e1
  have := T_le hT (Nat.zero_le i) hi
  omega
theorem ends_hi {l : List Sp} {T : List Int} (hE : EndsIn l T) (hT : StrictT T) {t : Int} (h : T.getD (T.length - 1) 0 ≤ t) : hasL l t = false := by
  rw [Bool.eq_false_iff]
  intro hm
  obtain ⟨p, hp, a, b⟩ := hasL_iff.1 hm
  obtain ⟨_, e2⟩ := hE p hp (by omega)
  obtain ⟨i, hi, e2⟩ := T_at e2
  have := T_le hT (show i ≤ T.length - 1 by omega) (by omega)
  omega
theorem ends_none {l : List Sp} (hE : EndsIn l []) (t : Int) : hasL l t = false := by
  rw [Bool.eq_false_iff]
  intro hm
  obtain ⟨p, hp, a, b⟩ := hasL_iff.1 hm
  obtain ⟨e1, _⟩ := hE p hp (by omega)
  simp at e1
/-- The pieces of two sets, kept by g. -/
theorem pieces_ok {a b : List Sp} {T : List Int} {g : Bool → Bool → Bool} (hg : g false false = false) (hT : StrictT T) (ha : EndsIn a T) (hb : EndsIn b T) :
    InForm (pJ (fun t => g (hasL a t) (hasL b t)) T (T.length - 1)) ∧ ∀ t, hasL (pJ (fun t => g (hasL a t) (hasL b t)) T (T.length - 1)) t = g (hasL a t) (hasL b t) := by
  rcases Nat.eq_zero_or_pos T.length with h0 | h0
  · have e : T = [] := List.eq_nil_of_length_eq_zero h0
    subst e
    refine ⟨InForm.nil, fun t => ?_⟩
    rw [ends_none ha, ends_none hb, hg]; rfl
  · obtain ⟨h1, h2⟩ := pJ_ok (f := fun t => g (hasL a t) (hasL b t)) hT (fun k hk t a1 b1 => by
      show g _ _ = g _ _
      rw [ends_const ha hT hk a1 b1, ends_const hb hT hk a1 b1]) (fun t ht => by
      show g _ _ = false
      rw [ends_lo ha hT ht, ends_lo hb hT ht, hg]) (T.length - 1) (by omega)
    refine ⟨h1, fun t => ?_⟩
    rw [Bool.eq_iff_iff, hasL_iff, h2 t]
    constructor
    · exact fun h => h.1
    · intro h
      refine ⟨h, ?_⟩
      rcases Int.lt_or_le t (T.getD (T.length - 1) 0) with h3 | h3
      · exact h3
      · rw [ends_hi ha hT h3, ends_hi hb hT h3, hg] at h; cases h
/-! ### The program's pieces -/
theorem dw_dw {x y : Int} (h : x ≤ y) : ∀ l : List Sp, (l.dropWhile (goneB x)).dropWhile (goneB y) = l.dropWhile (goneB y)
  | [] => rfl
  | p :: l => by
    by_cases c : goneB x p = true
    · have c2 : goneB y p = true := by unfold goneB at *; simp at *; omega
      rw [List.dropWhile_cons_of_pos c, List.dropWhile_cons_of_pos c2]; exact dw_dw h l
    · rw [List.dropWhile_cons_of_neg c]
theorem stS_eq {l : List Sp} {T : List Int} (hT : StrictT T) : ∀ k, k < T.length → stS l T (k + 1) = l.dropWhile (goneB (T.getD k 0))
  | 0, _ => rfl
  | k + 1, h => by
    have ih := stS_eq (l := l) hT k (by omega)
    rw [stS, ih, dw_dw (T_le hT (by omega) h)]
theorem hd_has {x : Int} : ∀ {l : List Sp}, InForm l → hdB (l.dropWhile (goneB x)) x = hasL l x
  | [], _ => rfl
  | p :: l, h => by
    by_cases c : goneB x p = true
    · rw [List.dropWhile_cons_of_pos c, hd_has h.tail]
      rw [hasL_ext, Mem10.cons]
      have : p.2 ≤ x := by simpa [goneB] using c
      exact ⟨.inr, fun h => h.elim (fun h => by omega) id⟩
    · rw [List.dropWhile_cons_of_neg c]
      have c' : x < p.2 := by simpa [goneB] using c
      have hn := h.ne p (by simp)
      rw [Bool.eq_iff_iff, hasL_iff, Mem10.cons]
      unfold hdB
      simp only [List.length_cons, Bool.and_eq_true, decide_eq_true_eq]
      constructor
      · rintro ⟨_, h2⟩
        exact .inl ⟨h2, c'⟩
      · rintro (h1 | h1)
        · exact ⟨by omega, h1.1⟩
        · have := Mem10.late h h1; omega
theorem bothJ_eq {g : Bool → Bool → Bool} {a b : List Sp} {T : List Int} (hT : StrictT T) (ha : InForm a) (hb : InForm b) : ∀ k, k ≤ T.length → bothJ g a b T k = pJ (fun t => g (hasL a t) (hasL b t)) T k
  | 0, _ => rfl
  | k + 1, h => by
    have ih := bothJ_eq (g := g) hT ha hb k (by omega)
    rw [bothJ, pJ, stS_eq hT k (by omega), stS_eq hT k (by omega), hd_has ha, hd_has hb, ih]
theorem cp_ok {d : Array Int} (hs : ∀ i j, i < j → j < d.size → d[i]! ≤ d[j]!) : ∀ m, m ≤ d.size → (Lib.compactUpTo d m).Pairwise (· < ·) ∧ (∀ x ∈ Lib.compactUpTo d m, ∃ i, i < m ∧ x = d[i]!) ∧ ∀ i, i < m → d[i]! ∈ Lib.compactUpTo d m
  | 0, _ => by unfold Lib.compactUpTo; simp
  | m + 1, h => by
    obtain ⟨h1, h2, h3⟩ := cp_ok hs m (by omega)
    rw [Lib.compactUpTo_succ]
    by_cases c : Lib.keeps d m = true
    · rw [if_pos c]
      have hlt : ∀ x ∈ Lib.compactUpTo d m, x < d[m]! := fun x hx => by
        obtain ⟨i, hi, rfl⟩ := h2 x hx
        have c' : m = 0 ∨ d[m]! ≠ d[m - 1]! := by simpa [Lib.keeps] using c
        rcases c' with c' | c'
        · omega
        · have a1 := hs (m - 1) m (by omega) (by omega)
          rcases Nat.lt_or_ge i (m - 1) with h5 | h5
          · have a2 := hs i (m - 1) h5 (by omega); omega
          · rw [show i = m - 1 by omega]; omega
      refine ⟨List.pairwise_append.2 ⟨h1, by simp, fun x hx y hy => ?_⟩, fun x hx => ?_, fun i hi => ?_⟩
      · rw [List.mem_singleton] at hy; subst hy; exact hlt x hx
      · rcases List.mem_append.1 hx with h5 | h5
        · obtain ⟨i, hi, e⟩ := h2 x h5; exact ⟨i, by omega, e⟩
        · rw [List.mem_singleton] at h5; exact ⟨m, by omega, h5⟩
      · rcases Nat.lt_or_ge i m with h5 | h5
        · exact List.mem_append.2 (.inl (h3 i h5))
        · rw [show i = m by omega]; simp
    · rw [if_neg c, List.append_nil]
      refine ⟨h1, fun x hx => ?_, fun i hi => ?_⟩
      · obtain ⟨i, hi, e⟩ := h2 x hx; exact ⟨i, by omega, e⟩
      · rcases Nat.lt_or_ge i m with h5 | h5
        · exact h3 i h5
        · have c' : ¬ (m = 0 ∨ d[m]! ≠ d[m - 1]!) := by simpa [Lib.keeps] using c
          have e : i = m := by omega
          subst e
          have : d[i]! = d[i - 1]! := by
            rcases Decidable.em (d[i]! = d[i - 1]!) with h | h
            · exact h
            · exact absurd (.inr h) c'
          rw [this]; exact h3 (i - 1) (by omega)
theorem endsL_ok (l : List (List Sp)) : StrictT (endsL l) ∧ ∀ a ∈ l, EndsIn a (endsL l) := by
  have hsort : (sortZ (flat2 l.flatten)).Pairwise (fun x y => decide (x ≤ y) = true) := List.pairwise_mergeSort (fun a b c h1 h2 => by simp at *; omega) (fun a b => by simp; omega) _
  have hs : ∀ i j, i < j → j < (sortZ (flat2 l.flatten)).toArray.size → (sortZ (flat2 l.flatten)).toArray[i]! ≤ (sortZ (flat2 l.flatten)).toArray[j]! := fun i j hij hj => by
    have hj' : j < (sortZ (flat2 l.flatten)).length := by simpa using hj
    have := List.pairwise_iff_getElem.1 hsort i j (by omega) hj' hij
    rw [getElem!_pos _ i (by simp; omega), getElem!_pos _ j hj]
    simpa using this
  obtain ⟨h1, _, h3⟩ := cp_ok hs (sortZ (flat2 l.flatten)).length (by simp)
  have hall : ∀ x ∈ flat2 l.flatten, x ∈ endsL l := fun x hx => by
    have : x ∈ sortZ (flat2 l.flatten) := List.mem_mergeSort.2 hx
    obtain ⟨i, hi, e⟩ := List.getElem_of_mem this
    have := h3 i hi
    rw [getElem!_pos _ i (by simpa using hi)] at this
    rw [← e]
    simpa [endsL, cpM, Lib.compact] using this
  refine ⟨h1, fun a ha p hp _ => ?_⟩
  have hm : ∀ x, x = p.1 ∨ x = p.2 → x ∈ flat2 l.flatten := fun x hx => by
    unfold flat2
    rw [List.mem_flatMap]
    exact ⟨p, List.mem_flatten.2 ⟨a, ha, hp⟩, by simpa using hx⟩
  exact ⟨hall _ (hm _ (.inl rfl)), hall _ (hm _ (.inr rfl))⟩
theorem bothM_ok {g : Bool → Bool → Bool} (hg : g false false = false) (a b : List Sp) : InForm (bothM g a b) ∧ ∀ t, hasL (bothM g a b) t = g (hasL a t) (hasL b t) := by
  obtain ⟨hT, hE⟩ := endsL_ok [ofM a, ofM b]
  have ha := ofM_ok a
  have hb := ofM_ok b
  obtain ⟨h1, h2⟩ := pieces_ok (g := g) hg hT (hE (ofM a) (by simp)) (hE (ofM b) (by simp))
  have e : bothM g a b = pJ (fun t => g (hasL (ofM a) t) (hasL (ofM b) t)) (TM a b) ((TM a b).length - 1) := bothJ_eq (T := TM a b) hT ha.1 hb.1 _ (by omega)
  rw [e]
  refine ⟨h1, fun t => ?_⟩
  have := h2 t
  unfold TM
  rw [this, hasL_ext.2 (ha.2.1 t), hasL_ext.2 (hb.2.1 t)]
/-! ### The document's pieces -/
theorem rejM_eq {J : List Sp} {x y : Int} (h : ∀ q ∈ J, q.2 ≤ x) (hxy : x < y) : rejM J x y = joinM J (x, y) := by
  rcases snoc_cases J with rfl | ⟨I, q, rfl⟩
  · rw [joinM_nil]; unfold rejM; simp
  · have hq := h q (by simp)
    have hl : (I ++ [q]).length - 1 = I.length := by simp
    have hg : (I ++ [q]).getD I.length (0, 0) = q := by simp
    rw [joinM_snoc]
    unfold rejM
    rw [hl, hg]
    by_cases c : q.2 = x
    · rw [if_pos (by simp; omega), if_pos (show q.2 ≥ x by omega)]
      have : (if y > q.2 then y else q.2) = y := by rw [if_pos (by omega)]
      simp [this]
    · rw [if_neg (by simp; omega), if_neg (show ¬ q.2 ≥ x by omega)]
theorem refJ_eq {how : Int} {a b : List Sp} {T : List Int} (hT : StrictT T) : ∀ k, k + 1 ≤ T.length → refJ how a b T k = pJ (fun t => (fun p q => !outB how p q) (hasL a t) (hasL b t)) T k
  | 0, _ => rfl
  | k + 1, h => by
    have ih := refJ_eq (how := how) (a := a) (b := b) hT k (by omega)
    have hhi := pJ_hi (f := fun t => (fun p q => !outB how p q) (hasL a t) (hasL b t)) hT k (by omega)
    have hlt := T_lt hT (show k < k + 1 by omega) (by omega)
    rw [refJ, pJ, ih, rejM_eq hhi hlt]
    have hsw : ∀ (c : Bool) (A B : List Sp), (if c = true then A else B) = if (!c) = true then B else A := fun c A B => by cases c <;> rfl
    exact hsw _ _ _
theorem tw_take {p : Int → Bool} : ∀ l : List Int, l.take (l.takeWhile p).length = l.takeWhile p ∧ l.drop (l.takeWhile p).length = l.dropWhile p
  | [] => ⟨rfl, rfl⟩
  | x :: l => by
    by_cases c : p x = true
    · have ih := tw_take (p := p) l
      rw [List.takeWhile_cons_of_pos c, List.dropWhile_cons_of_pos c]
      exact ⟨by rw [List.length_cons, List.take_succ_cons, ih.1], by rw [List.length_cons, List.drop_succ_cons, ih.2]⟩
    · rw [List.takeWhile_cons_of_neg c, List.dropWhile_cons_of_neg c]
      exact ⟨rfl, rfl⟩
theorem dw_head {p : Int → Bool} : ∀ {l : List Int} {x : Int} {r : List Int}, l.dropWhile p = x :: r → p x = false
  | [], _, _, h => by simp at h
  | y :: l, x, r, h => by
    by_cases c : p y = true
    · rw [List.dropWhile_cons_of_pos c] at h; exact dw_head h
    · rw [List.dropWhile_cons_of_neg c] at h; cases h; simpa using c
theorem putM_ok {l : List Int} (h : StrictT l) (n : Int) : StrictT (putM l n) ∧ n ∈ putM l n ∧ ∀ x ∈ l, x ∈ putM l n := by
  obtain ⟨e1, e2⟩ := tw_take (p := ltB n) l
  unfold putM
  by_cases c : isM l n = true
  · rw [if_pos c]
    unfold isM at c
    simp only [Bool.and_eq_true, decide_eq_true_eq] at c
    have hlt : atM l n < l.length := by omega
    refine ⟨h, ?_, fun _ h => h⟩
    rw [← c.2, T_getD hlt]; exact List.getElem_mem hlt
  · rw [if_neg c]
    have hl : l = l.takeWhile (ltB n) ++ l.dropWhile (ltB n) := List.takeWhile_append_dropWhile.symm
    show StrictT (l.take (l.takeWhile (ltB n)).length ++ n :: l.drop (l.takeWhile (ltB n)).length) ∧ n ∈ (l.take (l.takeWhile (ltB n)).length ++ n :: l.drop (l.takeWhile (ltB n)).length) ∧ _
    rw [e1, e2]
    have hlow : ∀ x ∈ l.takeWhile (ltB n), x < n := fun x hx => by
      have := List.all_eq_true.1 (List.all_takeWhile (p := ltB n) (l := l)) x hx
      simpa [ltB] using this
    have hp := h
    unfold StrictT at hp
    rw [hl] at hp
    obtain ⟨p1, p2, p3⟩ := List.pairwise_append.1 hp
    have hhigh : ∀ x ∈ l.dropWhile (ltB n), n < x := fun x hx => by
      cases hd : l.dropWhile (ltB n) with
      | nil => rw [hd] at hx; simp at hx
      | cons y r =>
        have hy : ¬ y < n := by have := dw_head hd; simpa [ltB] using this
        have hat : l.getD (atM l n) 0 = y ∧ atM l n < l.length := by
          have e3 : l.drop (atM l n) = y :: r := by rw [show atM l n = (l.takeWhile (ltB n)).length from rfl, e2, hd]
          have hlt : atM l n < l.length := by
            rcases Nat.lt_or_ge (atM l n) l.length with h | h
            · exact h
            · rw [List.drop_eq_nil_of_le h] at e3; cases e3
          rw [List.drop_eq_getElem_cons hlt] at e3
          rw [T_getD hlt]
          exact ⟨(List.cons.inj e3).1, hlt⟩
        have hne : y ≠ n := fun e => c (by
          unfold isM
          rw [hat.1, e]
          simp only [Bool.and_eq_true, decide_eq_true_eq, and_true]
          have := hat.2; omega)
        rw [hd] at hx p2
        rcases List.mem_cons.1 hx with rfl | hx
        · omega
        · have := (List.pairwise_cons.1 p2).1 x hx; omega
    refine ⟨List.pairwise_append.2 ⟨p1, List.pairwise_cons.2 ⟨hhigh, p2⟩, fun x hx y hy => ?_⟩, by simp, fun x hx => ?_⟩
    · rcases List.mem_cons.1 hy with rfl | hy
      · exact hlow x hx
      · exact p3 x hx y hy
    · rw [hl] at hx
      show x ∈ l.take (l.takeWhile (ltB n)).length ++ n :: l.drop (l.takeWhile (ltB n)).length
      rw [e1, e2]
      rcases List.mem_append.1 hx with h1 | h1
      · simp [h1]
      · simp [h1]
theorem foldR_ok : ∀ (S : List Sp) (s : List Int × Nat), StrictT s.1 → StrictT (S.foldl stepR s).1 ∧ (∀ x ∈ s.1, x ∈ (S.foldl stepR s).1) ∧ EndsIn S (S.foldl stepR s).1
  | [], s, h => ⟨h, fun _ h => h, fun p hp => by simp at hp⟩
  | p :: S, s, h => by
    have hs : StrictT (stepR s p).1 ∧ (∀ x ∈ s.1, x ∈ (stepR s p).1) ∧ (p.1 < p.2 → p.1 ∈ (stepR s p).1 ∧ p.2 ∈ (stepR s p).1) := by
      unfold stepR
      by_cases c : decide (p.2 > p.1) = true
      · rw [if_pos c]
        obtain ⟨a1, a2, a3⟩ := putM_ok h p.1
        obtain ⟨b1, b2, b3⟩ := putM_ok a1 p.2
        exact ⟨b1, fun x hx => b3 x (a3 x hx), fun _ => ⟨b3 _ a2, b2⟩⟩
      · rw [if_neg c]
        exact ⟨h, fun _ h => h, fun h => absurd h (by simpa using c)⟩
    obtain ⟨k1, k2, k3⟩ := foldR_ok S (stepR s p) hs.1
    rw [List.foldl_cons]
    refine ⟨k1, fun x hx => k2 x (hs.2.1 x hx), fun q hq hlt => ?_⟩
    rcases List.mem_cons.1 hq with rfl | hq
    · exact ⟨k2 _ (hs.2.2 hlt).1, k2 _ (hs.2.2 hlt).2⟩
    · exact k3 q hq hlt
theorem refM_ok (how : Int) (hg : outB how false false = true) (a b : List Sp) : InForm (refM how a b) ∧ ∀ t, hasL (refM how a b) t = !outB how (hasL a t) (hasL b t) := by
  obtain ⟨hT, _, hE⟩ := foldR_ok (a ++ b) ([], 0) (by unfold StrictT; exact .nil)
  have ha : EndsIn a (refT a b) := fun p hp => hE p (by simp [hp])
  have hb : EndsIn b (refT a b) := fun p hp => hE p (by simp [hp])
  obtain ⟨h1, h2⟩ := pieces_ok (g := fun p q => !outB how p q) (by show (!outB how false false) = false; rw [hg]; rfl) hT ha hb
  have e : refM how a b = pJ (fun t => (fun p q => !outB how p q) (hasL a t) (hasL b t)) (refT a b) ((refT a b).length - 1) := by
    unfold refM
    rcases Nat.eq_zero_or_pos (refT a b).length with h0 | h0
    · rw [h0]; rfl
    · exact refJ_eq (T := refT a b) hT _ (by omega)
  rw [e]
  exact ⟨h1, h2⟩
theorem out0 (p q : Bool) : (!outB 0 p q) = (p || q) := by cases p <;> cases q <;> rfl
theorem out1 (p q : Bool) : (!outB 1 p q) = (p && q) := by cases p <;> cases q <;> rfl
theorem out2 (p q : Bool) : (!outB 2 p q) = (p && !q) := by cases p <;> cases q <;> rfl
theorem or_ref (a b : List Sp) : bothM orG a b = refM 0 a b := by
  obtain ⟨a1, a2⟩ := bothM_ok (g := orG) rfl a b
  obtain ⟨b1, b2⟩ := refM_ok 0 rfl a b
  exact (form_eq a1 b1).2 fun t => by rw [a2, b2, out0]; rfl
theorem and_ref (a b : List Sp) : bothM andG a b = refM 1 a b := by
  obtain ⟨a1, a2⟩ := bothM_ok (g := andG) rfl a b
  obtain ⟨b1, b2⟩ := refM_ok 1 rfl a b
  exact (form_eq a1 b1).2 fun t => by rw [a2, b2, out1]; rfl
theorem minus_ref (a b : List Sp) : bothM minG a b = refM 2 a b := by
  obtain ⟨a1, a2⟩ := bothM_ok (g := minG) rfl a b
  obtain ⟨b1, b2⟩ := refM_ok 2 rfl a b
  exact (form_eq a1 b1).2 fun t => by rw [a2, b2, out2]; rfl
theorem of_has (l : List Sp) (t : Int) : hasL (ofM l) t = hasL l t := hasL_ext.2 ((ofM_ok l).2.1 t)
theorem of_ref (l : List Sp) : ofM l = refM 0 l [] := by
  obtain ⟨b1, b2⟩ := refM_ok 0 rfl l []
  exact (form_eq (ofM_ok l).1 b1).2 fun t => by rw [of_has, b2, out0, show hasL [] t = false from rfl, Bool.or_false]
end Go.Proofs.Ytoekdjdgeleelaa
namespace Go.Proofs.Ytoekdjdgeleelaa
open Go.RowKit Go.DL

theorem fit_iff {t : Int} : boundB t = true ↔ Fit t := by unfold boundB Fit; simp
theorem wid_iff {n : Int} : widthB n = true ↔ Wid n := by unfold widthB Wid; simp
def eO (n : Int) (p : Sp) : Int := wrongE n [p.1, p.2]
theorem eO_iff {n : Int} (hw : widthB n = true) (p : Sp) : (eO n p = 0 ↔ Fit p.1 ∧ Fit p.2) ∧ (eO n p = 0 ∨ eO n p = 7) := by
  unfold eO wrongE
  rw [hw]
  have e : ([p.1, p.2].all boundB) = (boundB p.1 && boundB p.2) := by simp
  rw [e]
  cases h1 : boundB p.1 <;> cases h2 : boundB p.2 <;> simp [← fit_iff, h1, h2]
def zO (n : Int) (p : Sp) : Sp := (whA floorZ ceilZ p.1 p.2 n, whB floorZ ceilZ p.1 p.2 n)
def zI (n : Int) (p : Sp) : Sp := (whA ceilZ floorZ p.1 p.2 n, whB ceilZ floorZ p.1 p.2 n)
def zOE (n : Int) (p : Sp) : Sp := (whEA floorZ ceilZ p.1 p.2 n, whEB floorZ ceilZ p.1 p.2 n)
def zIE (n : Int) (p : Sp) : Sp := (whEA ceilZ floorZ p.1 p.2 n, whEB ceilZ floorZ p.1 p.2 n)
theorem zOE_eq {n : Int} {p : Sp} (h : eO n p = 0) : zOE n p = zO n p := by
  unfold eO at h
  unfold zOE zO whEA whEB; rw [if_pos h, if_pos h]
theorem zIE_eq {n : Int} {p : Sp} (h : eO n p = 0) : zIE n p = zI n p := by
  unfold eO at h
  unfold zIE zI whEA whEB; rw [if_pos h, if_pos h]
set_option maxHeartbeats 4000000 in
theorem pOut_c (l : List Sp) (n : Int) (hl : l.length ≤ 1099511627776) : Fun Try.prog 11 [rdP l, I64 n] (· = .tup [rdP (wM n (eO n) (zOE n) (ofM l)), I64 (wE n (eO n) (ofM l))]) := by
  refine Fun.of Try.func11 rfl (Nat.le_of_ble_eq_true rfl) fun C => ?_
  refine WC.seq fun Fh1_ h1_ => ?_
  refine WC.region ?_
  refine RG.op _ _ rfl rfl (o_assign (.v _) rfl) ?_
  refine RG.op _ _ rfl rfl (o_assign (.v _) rfl) ?_
  refine RG.nil (h1_ _ ?_)
  refine WC.seq fun Fh2_ h2_ => ?_
  refine WC.region ?_
  refine RG.op _ _ rfl rfl (o_move (.rd _ _) rfl) ?_
  refine RG.op _ _ rfl rfl (o_move (.v _) rfl) ?_
  refine RG.op _ _ rfl rfl (o_call (ds := [rdP l, I64 n, .v (.func (.func 37) #[] #[])]) Ty.cal36 (pwhole_c n (eO n) (zOE n) Ty.cal37 (fun a b => Out_c a b n) (fun hw p => (eO_iff hw p).2) l hl) ⟨.inl rfl, .inl rfl, .inl rfl, trivial⟩ (by exact pua rfl)) ?_
  refine RG.op _ _ rfl rfl (o_extract rfl rfl) ?_
  refine RG.op _ _ rfl rfl (o_extract rfl rfl) ?_
  refine RG.op _ _ rfl rfl (o_assign (.rd _ _) rfl) ?_
  refine RG.op _ _ rfl rfl (o_assign (.v _) rfl) ?_
  refine RG.nil (h2_ _ ?_)
  refine WC.ret ?_
  exact Ends.r2 rfl (.tmp _ (.rd _ _) rfl) (.tmp _ (.v _) rfl) (.rd _ _) (.v _) (rfl)
set_option maxHeartbeats 4000000 in
theorem pIn_c (l : List Sp) (n : Int) (hl : l.length ≤ 1099511627776) : Fun Try.prog 12 [rdP l, I64 n] (· = .tup [rdP (wM n (eO n) (zIE n) (ofM l)), I64 (wE n (eO n) (ofM l))]) := by
  refine Fun.of Try.func12 rfl (Nat.le_of_ble_eq_true rfl) fun C => ?_
  refine WC.seq fun Fh1_ h1_ => ?_
  refine WC.region ?_
  refine RG.op _ _ rfl rfl (o_assign (.v _) rfl) ?_
  refine RG.op _ _ rfl rfl (o_assign (.v _) rfl) ?_
  refine RG.nil (h1_ _ ?_)
  refine WC.seq fun Fh2_ h2_ => ?_
  refine WC.region ?_
  refine RG.op _ _ rfl rfl (o_move (.rd _ _) rfl) ?_
  refine RG.op _ _ rfl rfl (o_move (.v _) rfl) ?_
  refine RG.op _ _ rfl rfl (o_call (ds := [rdP l, I64 n, .v (.func (.func 38) #[] #[])]) Ty.cal36 (pwhole_c n (eO n) (zIE n) Ty.cal38 (fun a b => In_c a b n) (fun hw p => (eO_iff hw p).2) l hl) ⟨.inl rfl, .inl rfl, .inl rfl, trivial⟩ (by exact pua rfl)) ?_
  refine RG.op _ _ rfl rfl (o_extract rfl rfl) ?_
  refine RG.op _ _ rfl rfl (o_extract rfl rfl) ?_
  refine RG.op _ _ rfl rfl (o_assign (.rd _ _) rfl) ?_
  refine RG.op _ _ rfl rfl (o_assign (.v _) rfl) ?_
  refine RG.nil (h2_ _ ?_)
  refine WC.ret ?_
  exact Ends.r2 rfl (.tmp _ (.rd _ _) rfl) (.tmp _ (.v _) rfl) (.rd _ _) (.v _) (rfl)
/-! ### The document's -/
set_option maxHeartbeats 4000000 in
theorem rOut0_c (a b n : Int) (he : emptyB a b = true) : Fun Try.prog 40 [SP a b, I64 n] (· = SP (zO n (a, b)).1 (zO n (a, b)).2) := by
  have e1 : SP 0 0 = SP (zO n (a, b)).1 (zO n (a, b)).2 := by unfold zO whA whB; rw [he]; rfl
  refine Fun.of Try.func40 rfl (Nat.le_of_ble_eq_true rfl) fun C => ?_
  refine WC.seq fun Fh1_ h1_ => ?_
  refine WC.region ?_
  refine RG.op _ _ rfl rfl (o_box (d := .agg [_, _]) rfl rfl) ?_
  refine RG.op _ _ rfl rfl (o_alloc (z_of Ty.inf36) rfl) ?_
  refine RG.nil (h1_ _ ?_)
  refine WC.seq fun Fh2_ h2_ => ?_
  refine WC.seq fun Fh3_ h3_ => ?_
  refine WC.region ?_
  refine RG.op _ _ rfl rfl (o_fld_ptr rfl Try.underlying36 rfl (sz_of Ty.inf2) (by decide)) ?_
  refine RG.op _ _ rfl rfl (o_load_ptr rfl Try.underlying2 rfl rfl rfl rfl) ?_
  refine RG.op _ _ rfl rfl (o_fld_ptr rfl Try.underlying36 rfl (sz_of Ty.inf2) (by decide)) ?_
  refine RG.op _ _ rfl rfl (o_load_ptr rfl Try.underlying2 rfl rfl rfl rfl) ?_
  refine RG.op _ _ rfl rfl (o_leI rfl rfl) ?_
  refine RG.nil (h3_ _ ?_)
  refine WC.cond _ rfl (fun c1 => ?_) (fun c1 => ?_)
  ·
    have p1 := c1
    try simp only [CN] at p1
    refine WC.seq fun Fh4_ h4_ => ?_
    refine WC.region ?_
    refine RG.op _ _ rfl rfl (o_build (cs := [I64 0, I64 0]) Try.underlying36 Ty.inf36 (Ty.pl36 Try.underlying36) rfl) ?_
    refine RG.op _ _ rfl rfl (o_store (d := (.agg [_, _])) rfl rfl rfl rfl (sz_of Ty.inf36) (Nat.le_of_ble_eq_true rfl) rfl) ?_
    refine RG.nil (h4_ _ ?_)
    refine WC.ret ?_
    exact Ends.r1 rfl (.agg rfl Try.underlying36 rfl (sz_of Ty.inf36) rfl rfl rfl) (.pure' (by exact pu_of rfl)) (e1)
  ·
    have p1 := c1
    try simp only [CN] at p1
    exact absurd (he.symm.trans (show emptyB a b = false from c1)) (by decide)
theorem rOut2_c (a b n : Int) (hf : a < b → Fit a ∧ Fit b) (hwid : Wid n) : Fun Try.prog 40 [SP a b, I64 n] (· = SP (zO n (a, b)).1 (zO n (a, b)).2) := by
  by_cases h : a < b
  · exact rOut_c a b n (hf h).1 (hf h).2 hwid
  · exact rOut0_c a b n (by unfold emptyB; simp; omega)
set_option maxHeartbeats 4000000 in
theorem rIn0_c (a b n : Int) (he : emptyB a b = true) : Fun Try.prog 41 [SP a b, I64 n] (· = SP (zI n (a, b)).1 (zI n (a, b)).2) := by
  have e1 : SP 0 0 = SP (zI n (a, b)).1 (zI n (a, b)).2 := by unfold zI whA whB; rw [he]; rfl
  refine Fun.of Try.func41 rfl (Nat.le_of_ble_eq_true rfl) fun C => ?_
  refine WC.seq fun Fh1_ h1_ => ?_
  refine WC.region ?_
  refine RG.op _ _ rfl rfl (o_box (d := .agg [_, _]) rfl rfl) ?_
  refine RG.op _ _ rfl rfl (o_alloc (z_of Ty.inf36) rfl) ?_
  refine RG.nil (h1_ _ ?_)
  refine WC.seq fun Fh2_ h2_ => ?_
  refine WC.seq fun Fh3_ h3_ => ?_
  refine WC.region ?_
  refine RG.op _ _ rfl rfl (o_fld_ptr rfl Try.underlying36 rfl (sz_of Ty.inf2) (by decide)) ?_
  refine RG.op _ _ rfl rfl (o_load_ptr rfl Try.underlying2 rfl rfl rfl rfl) ?_
  refine RG.op _ _ rfl rfl (o_fld_ptr rfl Try.underlying36 rfl (sz_of Ty.inf2) (by decide)) ?_
  refine RG.op _ _ rfl rfl (o_load_ptr rfl Try.underlying2 rfl rfl rfl rfl) ?_
  refine RG.op _ _ rfl rfl (o_leI rfl rfl) ?_
  refine RG.nil (h3_ _ ?_)
  refine WC.cond _ rfl (fun c1 => ?_) (fun c1 => ?_)
  ·
    have p1 := c1
    try simp only [CN] at p1
    refine WC.seq fun Fh4_ h4_ => ?_
    refine WC.region ?_
    refine RG.op _ _ rfl rfl (o_build (cs := [I64 0, I64 0]) Try.underlying36 Ty.inf36 (Ty.pl36 Try.underlying36) rfl) ?_
    refine RG.op _ _ rfl rfl (o_store (d := (.agg [_, _])) rfl rfl rfl rfl (sz_of Ty.inf36) (Nat.le_of_ble_eq_true rfl) rfl) ?_
    refine RG.nil (h4_ _ ?_)
    refine WC.ret ?_
    exact Ends.r1 rfl (.agg rfl Try.underlying36 rfl (sz_of Ty.inf36) rfl rfl rfl) (.pure' (by exact pu_of rfl)) (e1)
  ·
    have p1 := c1
    try simp only [CN] at p1
    exact absurd (he.symm.trans (show emptyB a b = false from c1)) (by decide)
theorem rIn2_c (a b n : Int) (hf : a < b → Fit a ∧ Fit b) (hwid : Wid n) : Fun Try.prog 41 [SP a b, I64 n] (· = SP (zI n (a, b)).1 (zI n (a, b)).2) := by
  by_cases h : a < b
  · exact rIn_c a b n (hf h).1 (hf h).2 hwid
  · exact rIn0_c a b n (by unfold emptyB; simp; omega)
theorem rE_ok {n : Int} {l : List Sp} (h : rE n l = 0) : Wid n ∧ ∀ p ∈ l, p.1 < p.2 → Fit p.1 ∧ Fit p.2 := by
  unfold rE at h
  by_cases hw : widthB n = true
  · rw [if_pos hw] at h
    by_cases hb : l.any badB = true
    · rw [if_pos hb] at h; cases h
    · refine ⟨wid_iff.1 hw, fun p hp hlt => ?_⟩
      have h1 : badB p = false := by
        rw [Bool.not_eq_true, List.any_eq_false] at hb
        simpa using hb p hp
      unfold badB at h1
      rw [decide_eq_true (show p.2 > p.1 from hlt), Bool.true_and] at h1
      rw [← fit_iff, ← fit_iff]
      cases h2 : boundB p.1 <;> cases h3 : boundB p.2 <;> simp [h2, h3] at h1 ⊢
  · rw [if_neg hw] at h; cases h
def dOut (n : Int) (l : List Sp) : List Sp := if rE n l = 0 then refM 0 (l.map (zO n)) [] else []
def dIn (n : Int) (l : List Sp) : List Sp := if rE n l = 0 then refM 0 ((refM 0 l []).map (zI n)) [] else []
set_option maxHeartbeats 4000000 in
theorem rOut10_c (l : List Sp) (n : Int) (hl : l.length ≤ 34359738368) : Fun Try.prog 13 [rdP l, I64 n] (· = .tup [rdP (dOut n l), I64 (rE n l)]) := by
  refine Fun.of Try.func13 rfl (Nat.le_of_ble_eq_true rfl) fun C => ?_
  refine WC.seq fun Fh1_ h1_ => ?_
  refine WC.region ?_
  refine RG.op _ _ rfl rfl (o_assign (.v _) rfl) ?_
  refine RG.op _ _ rfl rfl (o_assign (.v _) rfl) ?_
  refine RG.nil (h1_ _ ?_)
  refine WC.seq fun Fh2_ h2_ => ?_
  refine WC.region ?_
  refine RG.op _ _ rfl rfl (o_move (.rd _ _) rfl) ?_
  refine RG.op _ _ rfl rfl (o_move (.v _) rfl) ?_
  refine RG.op _ _ rfl rfl (o_call Ty.cal39 (rwrong_c _ _ (by first | omega | exact ubyte _ | (simp only [LS, len_pcs] <;> omega))) ⟨.inl rfl, .inl rfl, trivial⟩ (by exact pua rfl)) ?_
  refine RG.op _ _ rfl rfl (o_assign (.v _) rfl) ?_
  refine RG.nil (h2_ _ ?_)
  refine WC.seq fun Fh3_ h3_ => ?_
  refine WC.seq fun Fh4_ h4_ => ?_
  refine WC.region ?_
  refine RG.op _ _ rfl rfl (o_move (.v _) rfl) ?_
  refine RG.op _ _ rfl rfl (o_neI rfl rfl) ?_
  refine RG.nil (h4_ _ ?_)
  refine WC.cond _ rfl (fun c2 => ?_) (fun c2 => ?_)
  ·
    have p2 := c2
    try simp only [CN] at p2
    refine WC.seq fun Fh5_ h5_ => ?_
    refine WC.region ?_
    refine RG.op _ _ rfl rfl (o_move (.v _) rfl) ?_
    refine RG.op _ _ rfl rfl (o_assign (.v _) rfl) ?_
    refine RG.op _ _ rfl rfl (o_assign (.v _) rfl) ?_
    refine RG.nil (h5_ _ ?_)
    refine WC.ret ?_
    exact Ends.r2 rfl (.tmp _ (.v _) rfl) (.tmp _ (.v _) rfl) .nilr (.v _) ((by unfold dOut; rw [if_neg p2]; rfl))
  ·
    have p2 := c2
    try simp only [CN] at p2
    have hok := rE_ok p2
    refine WC.skip (h3_ _ ?_)
    refine WC.seq fun Fh6_ h6_ => ?_
    refine WC.region ?_
    refine RG.op _ _ rfl rfl (o_nil 36 2) ?_
    refine RG.nil (h6_ _ ?_)
    refine WC.seq fun Fh7_ h7_ => ?_
    refine WC.seq fun Fh8_ h8_ => ?_
    refine WC.region ?_
    refine RG.op _ _ rfl rfl (o_assign (.v _) rfl) ?_
    refine RG.nil (h8_ _ ?_)
    refine WC.block ?_
    refine WC.loopU [7, 8, 15, 16, 17, 18, 19, 20, 21, 22, 23, 24, 25, 26, 27, 28, 29] (fun (k : Nat) => [(8, I64 ((k : Nat) : Int)), (7, ow 0 ((l.take k).map (zO n)).length 2)]) (fun (k : Nat) => [(0, tb 36 ((l.take k).map (zO n)).length (((l.take k).map (zO n)).flatMap pc))]) (fun (k : Nat) => k ≤ l.length) (fun (k : Nat) => l.length - k) 0 (Nat.zero_le _) ?lpa9_ ?lpb10_
    case lpa9_ =>
      exact .mk' ⟨⟨rfl, .v _⟩, ⟨rfl, (by first | exact .own _ _ _ _ _ (Nat.le_refl _) | exact .ptr _ _ _ (Nat.le_refl _) | exact .omp _ _ (Nat.le_refl _))⟩, trivial⟩ (same_refl _ _) (rfl) (by repeat (first | exact trivial | refine And.intro (Nat.le_refl _) ?_ | refine And.intro trivial ?_ | refine And.intro (by show _ ≤ _; (first | omega | (simp only [LS, len_pcs] <;> omega))) ?_)) (by repeat (first | exact trivial | refine And.intro (one_ok (.own _ _ _ _ _ (Nat.le_refl _))) ?_ | refine And.intro (okp (by repeat (first | exact pu_pcs _ | exact pu_bytes _ | exact pu_nil | exact pu_vs rfl | exact pu_map (fun _ => .v _) _ | exact pu_vals _ | refine pu_app ?_ ?_ | refine pu_cons (by exact pu_of rfl) ?_))) ?_))
    case lpb10_ =>
      rintro k hI
      have hml : ((l.take k).map (zO n)).length = k := by rw [List.length_map, List.length_take]; omega
      refine WC.seq fun Fh11_ h11_ => ?_
      refine WC.seq fun Fh12_ h12_ => ?_
      refine WC.region ?_
      refine RG.op _ _ rfl rfl (o_move (.v _) rfl) ?_
      refine RG.op _ _ rfl rfl (o_move (.rd _ _) rfl) ?_
      refine RG.op _ _ rfl rfl (o_len_rd rfl Try.underlying22) ?_
      refine RG.op _ _ rfl rfl (o_ltI rfl rfl) ?_
      refine RG.nil (h12_ _ ?_)
      refine WC.cond _ rfl (fun c6 => ?_) (fun c6 => ?_)
      ·
        have p6 := c6
        try simp only [CN] at p6
        have hkl : k < l.length := by omega
        refine WC.skip (h11_ _ ?_)
        refine WC.seq fun Fh13_ h13_ => ?_
        refine WC.block ?_
        refine WC.region ?_
        refine RG.op _ _ rfl rfl (o_move (.own _ _ _ _ _) rfl) ?_
        refine RG.op _ _ rfl rfl (o_move (.rd _ _) rfl) ?_
        refine RG.op _ _ rfl rfl (o_move (.v _) rfl) ?_
        refine RG.op _ _ rfl rfl (o_ixn_L (l := l) (f := pc) k pc_len rfl rfl rfl Try.underlying22 (sz_of Ty.inf36) rfl hkl) ?_
        refine RG.op _ _ rfl rfl (o_load_adr_L (xs := [_, _]) rfl Try.underlying36 rfl (sz_of Ty.inf36) rfl) ?_
        refine RG.op _ _ rfl rfl (o_move (.v _) rfl) ?_
        refine RG.op _ _ rfl rfl (o_call Ty.cal40 (rOut2_c (l[k]'hkl).1 (l[k]'hkl).2 n (fun h => hok.2 _ (List.getElem_mem hkl) h) hok.1) ⟨.inl rfl, .inl rfl, trivial⟩ (by exact pua rfl)) ?_
        refine RG.op _ _ rfl rfl (o_litP (cs := [_, _]) Try.underlying22 Ty.inf36 rfl rfl rfl rfl (by repeat (first | exact pu_pcs _ | exact pu_bytes _ | exact pu_nil | exact pu_vs rfl | exact pu_map (fun _ => .v _) _ | exact pu_vals _ | refine pu_app ?_ ?_ | refine pu_cons (by exact pu_of rfl) ?_))) ?_
        refine RG.op _ _ rfl rfl (o_appT (Elem.of Try.underlying22 Ty.inf36 rfl (by decide)) rfl rfl rfl (by first | omega | exact ubyte _ | (simp only [LS, len_pcs] <;> omega)) (by first | omega | exact ubyte _ | (simp only [LS, len_pcs] <;> omega)) (by repeat (first | exact bytesD_one _ | exact one_nil | exact one_map (fun _ => rfl) _ | exact one_vals _ | exact one_pcs _ | refine one_app ?_ ?_ | refine one_cons rfl ?_)) (by first | omega | exact ubyte _ | (simp only [LS, len_pcs] <;> omega)) (by first | omega | exact ubyte _ | (simp only [LS, len_pcs] <;> omega))) ?_
        refine RG.op _ _ rfl rfl (o_assign (.own _ _ _ _ _) rfl) ?_
        refine RG.nil (h13_ _ ?_)
        refine WC.region ?_
        refine RG.op _ _ rfl rfl (o_move (.v _) rfl) ?_
        refine RG.op _ _ rfl rfl (o_add rfl rfl (by first | omega | exact ubyte _ | (simp only [LS, len_pcs] <;> omega)) (by first | omega | exact ubyte _ | (simp only [LS, len_pcs] <;> omega))) ?_
        refine RG.op _ _ rfl rfl (o_assign (.v _) rfl) ?_
        refine RG.nil (Exists.intro (k + 1) ⟨by first | omega | (simp only [LS, len_pcs] <;> omega), by first | omega | (simp only [LS, len_pcs] <;> omega), ?_⟩)
        exact .mk' ⟨⟨rfl, .v _⟩, ⟨ow_eq (by rw [map_step hkl, List.length_append]; rfl), (by first | exact .own _ _ _ _ _ (Nat.le_refl _) | exact .ptr _ _ _ (Nat.le_refl _) | exact .omp _ _ (Nat.le_refl _))⟩, trivial⟩ (by repeat (first | with_reducible exact same_refl _ _ | with_reducible refine same_updO (by with_unfolding_all exact rfl) ?_ | with_reducible refine same_updN ?_ | with_reducible refine same_updL (by with_unfolding_all exact rfl) ?_ | with_reducible refine same_forget (by with_unfolding_all exact rfl) ?_)) (congrArg (fun c => [c]) (tb_eq (by rw [map_step hkl, List.length_append]; rfl) (by rw [map_step hkl, List.flatMap_append]; rfl))) (by repeat (first | exact trivial | refine And.intro (Nat.le_refl _) ?_ | refine And.intro trivial ?_ | refine And.intro (by show _ ≤ _; (first | omega | (simp only [LS, len_pcs] <;> omega))) ?_)) (by repeat (first | exact trivial | refine And.intro (one_ok (.own _ _ _ _ _ (Nat.le_refl _))) ?_ | refine And.intro (okp (by repeat (first | exact pu_pcs _ | exact pu_bytes _ | exact pu_nil | exact pu_vs rfl | exact pu_map (fun _ => .v _) _ | exact pu_vals _ | refine pu_app ?_ ?_ | refine pu_cons (by exact pu_of rfl) ?_))) ?_))
      ·
        have p6 := c6
        try simp only [CN] at p6
        refine WC.exit (h7_ _ ?_)
        refine WC.seq fun Fh14_ h14_ => ?_
        refine WC.frz 0 _ [(7, rdP ((l.take k).map (zO n)))] rfl (by repeat (first | exact pu_pcs _ | exact pu_bytes _ | exact pu_nil | exact pu_vs rfl | exact pu_map (fun _ => .v _) _ | exact pu_vals _ | refine pu_app ?_ ?_ | refine pu_cons (by exact pu_of rfl) ?_)) ⟨.rowE rfl (by first | rfl | omega | (simp; done) | (simp; omega)) (by first | rfl | simp [bytesD]), trivial⟩ ?_
        refine WC.region ?_
        refine RG.op _ _ rfl rfl (o_move (.rd _ _) rfl) ?_
        refine RG.op _ _ rfl rfl (o_call Ty.cal17 (rOf_c _ (by omega)) ⟨.inl rfl, trivial⟩ (by exact pua rfl)) ?_
        refine RG.op _ _ rfl rfl (o_assign (.rd _ _) rfl) ?_
        refine RG.op _ _ rfl rfl (o_assign (.v _) rfl) ?_
        refine RG.nil (h14_ _ ?_)
        refine WC.ret ?_
        exact Ends.r2 rfl (.tmp _ (.rd _ _) rfl) (.tmp _ (.v _) rfl) (.rd _ _) (.v _) ((by unfold dOut; rw [if_pos p2, p2, List.take_of_length_le (by omega)]))
set_option maxHeartbeats 4000000 in
theorem rIn10_c (l : List Sp) (n : Int) (hl : l.length ≤ 34359738368) : Fun Try.prog 14 [rdP l, I64 n] (· = .tup [rdP (dIn n l), I64 (rE n l)]) := by
  have hfe := of_ref l
  have hfl := ofM_len l
  have hfo := (ofM_ok l).2.2
  rw [hfe] at hfl hfo
  refine Fun.of Try.func14 rfl (Nat.le_of_ble_eq_true rfl) fun C => ?_
  refine WC.seq fun Fh1_ h1_ => ?_
  refine WC.region ?_
  refine RG.op _ _ rfl rfl (o_assign (.v _) rfl) ?_
  refine RG.op _ _ rfl rfl (o_assign (.v _) rfl) ?_
  refine RG.nil (h1_ _ ?_)
  refine WC.seq fun Fh2_ h2_ => ?_
  refine WC.region ?_
  refine RG.op _ _ rfl rfl (o_move (.rd _ _) rfl) ?_
  refine RG.op _ _ rfl rfl (o_move (.v _) rfl) ?_
  refine RG.op _ _ rfl rfl (o_call Ty.cal39 (rwrong_c _ _ (by first | omega | exact ubyte _ | (simp only [LS, len_pcs] <;> omega))) ⟨.inl rfl, .inl rfl, trivial⟩ (by exact pua rfl)) ?_
  refine RG.op _ _ rfl rfl (o_assign (.v _) rfl) ?_
  refine RG.nil (h2_ _ ?_)
  refine WC.seq fun Fh3_ h3_ => ?_
  refine WC.seq fun Fh4_ h4_ => ?_
  refine WC.region ?_
  refine RG.op _ _ rfl rfl (o_move (.v _) rfl) ?_
  refine RG.op _ _ rfl rfl (o_neI rfl rfl) ?_
  refine RG.nil (h4_ _ ?_)
  refine WC.cond _ rfl (fun c2 => ?_) (fun c2 => ?_)
  ·
    have p2 := c2
    try simp only [CN] at p2
    refine WC.seq fun Fh5_ h5_ => ?_
    refine WC.region ?_
    refine RG.op _ _ rfl rfl (o_move (.v _) rfl) ?_
    refine RG.op _ _ rfl rfl (o_assign (.v _) rfl) ?_
    refine RG.op _ _ rfl rfl (o_assign (.v _) rfl) ?_
    refine RG.nil (h5_ _ ?_)
    refine WC.ret ?_
    exact Ends.r2 rfl (.tmp _ (.v _) rfl) (.tmp _ (.v _) rfl) .nilr (.v _) ((by unfold dIn; rw [if_neg p2]; rfl))
  ·
    have p2 := c2
    try simp only [CN] at p2
    have hok := rE_ok p2
    refine WC.skip (h3_ _ ?_)
    refine WC.seq fun Fh6_ h6_ => ?_
    refine WC.region ?_
    refine RG.op _ _ rfl rfl (o_nil 36 2) ?_
    refine RG.nil (h6_ _ ?_)
    refine WC.seq fun Fh7_ h7_ => ?_
    refine WC.region ?_
    refine RG.op _ _ rfl rfl (o_move (.rd _ _) rfl) ?_
    refine RG.op _ _ rfl rfl (o_call Ty.cal17 (rOf_c l (by omega)) ⟨.inl rfl, trivial⟩ (by exact pua rfl)) ?_
    refine RG.op _ _ rfl rfl (o_assign (.rd _ _) rfl) ?_
    refine RG.nil (h7_ _ ?_)
    refine WC.seq fun Fh8_ h8_ => ?_
    refine WC.seq fun Fh9_ h9_ => ?_
    refine WC.region ?_
    refine RG.op _ _ rfl rfl (o_assign (.v _) rfl) ?_
    refine RG.nil (h9_ _ ?_)
    refine WC.block ?_
    refine WC.loopU [7, 9, 18, 19, 20, 21, 22, 23, 24, 25, 26, 27, 28, 29, 30, 31, 32] (fun (k : Nat) => [(9, I64 ((k : Nat) : Int)), (7, ow 0 (((refM 0 l []).take k).map (zI n)).length 2)]) (fun (k : Nat) => [(0, tb 36 (((refM 0 l []).take k).map (zI n)).length ((((refM 0 l []).take k).map (zI n)).flatMap pc))]) (fun (k : Nat) => k ≤ (refM 0 l []).length) (fun (k : Nat) => (refM 0 l []).length - k) 0 (Nat.zero_le _) ?lpa10_ ?lpb11_
    case lpa10_ =>
      exact .mk' ⟨⟨rfl, .v _⟩, ⟨rfl, (by first | exact .own _ _ _ _ _ (Nat.le_refl _) | exact .ptr _ _ _ (Nat.le_refl _) | exact .omp _ _ (Nat.le_refl _))⟩, trivial⟩ (same_refl _ _) (rfl) (by repeat (first | exact trivial | refine And.intro (Nat.le_refl _) ?_ | refine And.intro trivial ?_ | refine And.intro (by show _ ≤ _; (first | omega | (simp only [LS, len_pcs] <;> omega))) ?_)) (by repeat (first | exact trivial | refine And.intro (one_ok (.own _ _ _ _ _ (Nat.le_refl _))) ?_ | refine And.intro (okp (by repeat (first | exact pu_pcs _ | exact pu_bytes _ | exact pu_nil | exact pu_vs rfl | exact pu_map (fun _ => .v _) _ | exact pu_vals _ | refine pu_app ?_ ?_ | refine pu_cons (by exact pu_of rfl) ?_))) ?_))
    case lpb11_ =>
      rintro k hI
      have hml : (((refM 0 l []).take k).map (zI n)).length = k := by rw [List.length_map, List.length_take]; omega
      refine WC.seq fun Fh12_ h12_ => ?_
      refine WC.seq fun Fh13_ h13_ => ?_
      refine WC.region ?_
      refine RG.op _ _ rfl rfl (o_move (.v _) rfl) ?_
      refine RG.op _ _ rfl rfl (o_move (.rd _ _) rfl) ?_
      refine RG.op _ _ rfl rfl (o_len_rd rfl Try.underlying22) ?_
      refine RG.op _ _ rfl rfl (o_ltI rfl rfl) ?_
      refine RG.nil (h13_ _ ?_)
      refine WC.cond _ rfl (fun c7 => ?_) (fun c7 => ?_)
      ·
        have p7 := c7
        try simp only [CN] at p7
        have hkl : k < (refM 0 l []).length := by omega
        have hfk : Fit ((refM 0 l [])[k]'hkl).1 ∧ Fit ((refM 0 l [])[k]'hkl).2 := by obtain ⟨x, y, hx, hy, nx, ny, e1, e2⟩ := hfo _ (List.getElem_mem hkl); rw [e1, e2]; exact ⟨(hok.2 x hx nx).1, (hok.2 y hy ny).2⟩
        refine WC.skip (h12_ _ ?_)
        refine WC.seq fun Fh14_ h14_ => ?_
        refine WC.block ?_
        refine WC.region ?_
        refine RG.op _ _ rfl rfl (o_move (.own _ _ _ _ _) rfl) ?_
        refine RG.op _ _ rfl rfl (o_move (.rd _ _) rfl) ?_
        refine RG.op _ _ rfl rfl (o_move (.v _) rfl) ?_
        refine RG.op _ _ rfl rfl (o_ixn_L (l := refM 0 l []) (f := pc) k pc_len rfl rfl rfl Try.underlying22 (sz_of Ty.inf36) rfl hkl) ?_
        refine RG.op _ _ rfl rfl (o_load_adr_L (xs := [_, _]) rfl Try.underlying36 rfl (sz_of Ty.inf36) rfl) ?_
        refine RG.op _ _ rfl rfl (o_move (.v _) rfl) ?_
        refine RG.op _ _ rfl rfl (o_call Ty.cal41 (rIn2_c ((refM 0 l [])[k]'hkl).1 ((refM 0 l [])[k]'hkl).2 n (fun _ => hfk) hok.1) ⟨.inl rfl, .inl rfl, trivial⟩ (by exact pua rfl)) ?_
        refine RG.op _ _ rfl rfl (o_litP (cs := [_, _]) Try.underlying22 Ty.inf36 rfl rfl rfl rfl (by repeat (first | exact pu_pcs _ | exact pu_bytes _ | exact pu_nil | exact pu_vs rfl | exact pu_map (fun _ => .v _) _ | exact pu_vals _ | refine pu_app ?_ ?_ | refine pu_cons (by exact pu_of rfl) ?_))) ?_
        refine RG.op _ _ rfl rfl (o_appT (Elem.of Try.underlying22 Ty.inf36 rfl (by decide)) rfl rfl rfl (by first | omega | exact ubyte _ | (simp only [LS, len_pcs] <;> omega)) (by first | omega | exact ubyte _ | (simp only [LS, len_pcs] <;> omega)) (by repeat (first | exact bytesD_one _ | exact one_nil | exact one_map (fun _ => rfl) _ | exact one_vals _ | exact one_pcs _ | refine one_app ?_ ?_ | refine one_cons rfl ?_)) (by first | omega | exact ubyte _ | (simp only [LS, len_pcs] <;> omega)) (by first | omega | exact ubyte _ | (simp only [LS, len_pcs] <;> omega))) ?_
        refine RG.op _ _ rfl rfl (o_assign (.own _ _ _ _ _) rfl) ?_
        refine RG.nil (h14_ _ ?_)
        refine WC.region ?_
        refine RG.op _ _ rfl rfl (o_move (.v _) rfl) ?_
        refine RG.op _ _ rfl rfl (o_add rfl rfl (by first | omega | exact ubyte _ | (simp only [LS, len_pcs] <;> omega)) (by first | omega | exact ubyte _ | (simp only [LS, len_pcs] <;> omega))) ?_
        refine RG.op _ _ rfl rfl (o_assign (.v _) rfl) ?_
        refine RG.nil (Exists.intro (k + 1) ⟨by first | omega | (simp only [LS, len_pcs] <;> omega), by first | omega | (simp only [LS, len_pcs] <;> omega), ?_⟩)
        exact .mk' ⟨⟨rfl, .v _⟩, ⟨ow_eq (by rw [map_step hkl, List.length_append]; rfl), (by first | exact .own _ _ _ _ _ (Nat.le_refl _) | exact .ptr _ _ _ (Nat.le_refl _) | exact .omp _ _ (Nat.le_refl _))⟩, trivial⟩ (by repeat (first | with_reducible exact same_refl _ _ | with_reducible refine same_updO (by with_unfolding_all exact rfl) ?_ | with_reducible refine same_updN ?_ | with_reducible refine same_updL (by with_unfolding_all exact rfl) ?_ | with_reducible refine same_forget (by with_unfolding_all exact rfl) ?_)) (congrArg (fun c => [c]) (tb_eq (by rw [map_step hkl, List.length_append]; rfl) (by rw [map_step hkl, List.flatMap_append]; rfl))) (by repeat (first | exact trivial | refine And.intro (Nat.le_refl _) ?_ | refine And.intro trivial ?_ | refine And.intro (by show _ ≤ _; (first | omega | (simp only [LS, len_pcs] <;> omega))) ?_)) (by repeat (first | exact trivial | refine And.intro (one_ok (.own _ _ _ _ _ (Nat.le_refl _))) ?_ | refine And.intro (okp (by repeat (first | exact pu_pcs _ | exact pu_bytes _ | exact pu_nil | exact pu_vs rfl | exact pu_map (fun _ => .v _) _ | exact pu_vals _ | refine pu_app ?_ ?_ | refine pu_cons (by exact pu_of rfl) ?_))) ?_))
      ·
        have p7 := c7
        try simp only [CN] at p7
        refine WC.exit (h8_ _ ?_)
        refine WC.seq fun Fh15_ h15_ => ?_
        refine WC.frz 0 _ [(7, rdP (((refM 0 l []).take k).map (zI n)))] rfl (by repeat (first | exact pu_pcs _ | exact pu_bytes _ | exact pu_nil | exact pu_vs rfl | exact pu_map (fun _ => .v _) _ | exact pu_vals _ | refine pu_app ?_ ?_ | refine pu_cons (by exact pu_of rfl) ?_)) ⟨.rowE rfl (by first | rfl | omega | (simp; done) | (simp; omega)) (by first | rfl | simp [bytesD]), trivial⟩ ?_
        refine WC.region ?_
        refine RG.op _ _ rfl rfl (o_move (.rd _ _) rfl) ?_
        refine RG.op _ _ rfl rfl (o_call Ty.cal17 (rOf_c _ (by omega)) ⟨.inl rfl, trivial⟩ (by exact pua rfl)) ?_
        refine RG.op _ _ rfl rfl (o_assign (.rd _ _) rfl) ?_
        refine RG.op _ _ rfl rfl (o_assign (.v _) rfl) ?_
        refine RG.nil (h15_ _ ?_)
        refine WC.ret ?_
        exact Ends.r2 rfl (.tmp _ (.rd _ _) rfl) (.tmp _ (.v _) rfl) (.rd _ _) (.v _) ((by unfold dIn; rw [if_pos p2, p2, List.take_of_length_le (by omega)]))
end Go.Proofs.Ytoekdjdgeleelaa
namespace Go.Proofs.Ytoekdjdgeleelaa
open Go.RowKit Go.DL

section
variable {n : Int}
theorem fl_mul (t : Int) : floorZ t n = n * (t / n) := by unfold floorZ; have := Int.mul_ediv_add_emod t n; omega
theorem fl_le (hn : 1 ≤ n) (t : Int) : floorZ t n ≤ t ∧ t < floorZ t n + n := by
  unfold floorZ
  have h1 := Int.emod_nonneg t (show n ≠ 0 by omega)
  have h2 := Int.emod_lt_of_pos t (show 0 < n by omega)
  omega
theorem fl_mono (hn : 1 ≤ n) {s t : Int} (h : s ≤ t) : floorZ s n ≤ floorZ t n := by
  rw [fl_mul, fl_mul]
  exact Int.mul_le_mul_of_nonneg_left (Int.ediv_le_ediv (by omega) h) (by omega)
theorem fl_gap (hn : 1 ≤ n) {s t : Int} (h : floorZ s n < floorZ t n) : floorZ s n + n ≤ floorZ t n := by
  rw [fl_mul, fl_mul] at *
  have h1 : s / n < t / n := Int.lt_of_mul_lt_mul_left h (by omega)
  have h2 := Int.mul_le_mul_of_nonneg_left (show s / n + 1 ≤ t / n by omega) (show 0 ≤ n by omega)
  rw [Int.mul_add, Int.mul_one] at h2
  exact h2
theorem fl_of (hn : 1 ≤ n) {s t : Int} (h1 : floorZ t n ≤ s) (h2 : s < floorZ t n + n) : floorZ s n = floorZ t n := by
  have a := fl_le hn s
  rcases Int.lt_trichotomy (floorZ s n) (floorZ t n) with h | h | h
  · have := fl_gap hn h; omega
  · exact h
  · have := fl_gap hn h; omega
theorem fl_fl (hn : 1 ≤ n) (t : Int) : floorZ (floorZ t n) n = floorZ t n := fl_of hn (Int.le_refl _) (by omega)
theorem fl_next (hn : 1 ≤ n) (t : Int) : floorZ (floorZ t n + n) n = floorZ t n + n := by
  have a := fl_le hn (floorZ t n + n)
  have b := fl_fl hn t
  rcases Int.lt_or_le (floorZ t n) (floorZ (floorZ t n + n) n) with h | h
  · have := fl_gap hn h; omega
  · omega
theorem zO_ne {p : Sp} (h : p.1 < p.2) (hn : 1 ≤ n) : zO n p = (floorZ p.1 n, ceilZ p.2 n) := by
  have a := fl_le hn p.1
  have b := fl_le hn p.2
  have he : emptyB p.1 p.2 = false := by unfold emptyB; simp; omega
  have h2 : emptyB (floorZ p.1 n) (ceilZ p.2 n) = false := by unfold emptyB ceilZ; simp; split <;> omega
  unfold zO whA whB gA gB
  rw [he, h2]; rfl
theorem zO_e {p : Sp} (h : ¬ p.1 < p.2) : zO n p = (0, 0) := by
  have he : emptyB p.1 p.2 = true := by unfold emptyB; simp; omega
  unfold zO whA whB
  rw [he]; rfl
theorem out_iff (hn : 1 ≤ n) (p : Sp) (t : Int) : ((zO n p).1 ≤ t ∧ t < (zO n p).2) ↔ ∃ u, (p.1 ≤ u ∧ u < p.2) ∧ floorZ u n = floorZ t n := by
  by_cases h : p.1 < p.2
  · rw [zO_ne h hn]
    have a := fl_le hn p.1
    have b := fl_le hn p.2
    have c := fl_le hn t
    constructor
    · rintro ⟨h1, h2⟩
      have h1 : floorZ p.1 n ≤ t := h1
      have h2 : t < ceilZ p.2 n := h2
      by_cases h3 : t < p.1
      · exact ⟨p.1, ⟨by omega, h⟩, (fl_of hn (s := t) h1 (by omega)).symm⟩
      · by_cases h4 : t < p.2
        · exact ⟨t, ⟨by omega, h4⟩, rfl⟩
        · unfold ceilZ at h2
          split at h2
          · have e1 := fl_of hn (s := t) (t := p.2) (by omega) h2
            exact ⟨p.2 - 1, ⟨by omega, by omega⟩, by rw [e1]; exact fl_of hn (by omega) (by omega)⟩
          · omega
    · rintro ⟨u, ⟨h1, h2⟩, h3⟩
      have m1 := fl_mono hn h1
      have m2 := fl_mono hn (show u ≤ p.2 by omega)
      have d := fl_le hn u
      refine ⟨by show floorZ p.1 n ≤ t; omega, ?_⟩
      show t < ceilZ p.2 n
      unfold ceilZ
      rcases Int.lt_or_le (floorZ u n) (floorZ p.2 n) with h4 | h4
      · have := fl_gap hn h4; split <;> omega
      · split <;> omega
  · rw [zO_e h]
    constructor
    · rintro ⟨h1, h2⟩
      have h1 : (0 : Int) ≤ t := h1
      have h2 : t < (0 : Int) := h2
      omega
    · rintro ⟨u, ⟨h1, h2⟩, _⟩; omega
theorem in_iff (hn : 1 ≤ n) (p : Sp) (t : Int) : ((zI n p).1 ≤ t ∧ t < (zI n p).2) ↔ (p.1 ≤ floorZ t n ∧ floorZ t n + n ≤ p.2) := by
  have a := fl_le hn p.1
  have b := fl_le hn p.2
  have c := fl_le hn t
  have key : (ceilZ p.1 n ≤ t ∧ t < floorZ p.2 n) ↔ (p.1 ≤ floorZ t n ∧ floorZ t n + n ≤ p.2) := by
    constructor
    · rintro ⟨h1, h2⟩
      have h3 : p.1 ≤ floorZ t n := by
        unfold ceilZ at h1
        split at h1
        · have m := fl_mono hn h1
          rw [fl_next hn] at m; omega
        · have m := fl_mono hn h1
          rw [fl_fl hn] at m; omega
      have h4 : floorZ t n < floorZ p.2 n := by omega
      have := fl_gap hn h4
      exact ⟨h3, by omega⟩
    · rintro ⟨h1, h2⟩
      have m := fl_mono hn h2
      rw [fl_next hn] at m
      refine ⟨?_, by omega⟩
      unfold ceilZ
      split
      · have := fl_gap hn (show floorZ p.1 n < floorZ t n by omega); omega
      · omega
  by_cases h : p.1 < p.2
  · have he : emptyB p.1 p.2 = false := by unfold emptyB; simp; omega
    rw [← key]
    unfold zI whA whB gA gB
    rw [he]
    cases h2 : emptyB (ceilZ p.1 n) (floorZ p.2 n) with
    | false => exact Iff.rfl
    | true =>
      have : floorZ p.2 n ≤ ceilZ p.1 n := by simpa [emptyB] using h2
      show ((0 : Int) ≤ t ∧ t < (0 : Int)) ↔ _
      constructor <;> (rintro ⟨_, _⟩; omega)
  · have he : emptyB p.1 p.2 = true := by unfold emptyB; simp; omega
    unfold zI whA whB
    rw [he]
    show ((0 : Int) ≤ t ∧ t < (0 : Int)) ↔ _
    constructor <;> (rintro ⟨_, _⟩; omega)
end
theorem form_pair {l : List Sp} (h : InForm l) {p q : Sp} (hp : p ∈ l) (hq : q ∈ l) : p = q ∨ p.2 < q.1 ∨ q.2 < p.1 := by
  have hg := h.gap
  clear h
  induction l with
  | nil => simp at hp
  | cons x l ih =>
    obtain ⟨h1, h2⟩ := List.pairwise_cons.1 hg
    rcases List.mem_cons.1 hp with e1 | hp'
    · rcases List.mem_cons.1 hq with e2 | hq'
      · exact .inl (e1.trans e2.symm)
      · subst e1; exact .inr (.inl (h1 _ hq'))
    · rcases List.mem_cons.1 hq with e2 | hq'
      · subst e2; exact .inr (.inr (h1 _ hp'))
      · exact ih hp' hq' h2
theorem Mem10.map {z : Sp → Sp} {l : List Sp} {t : Int} : Mem10 (l.map z) t ↔ ∃ p ∈ l, (z p).1 ≤ t ∧ t < (z p).2 := by
  unfold Mem10
  constructor
  · rintro ⟨q, hq, h⟩
    obtain ⟨p, hp, rfl⟩ := List.mem_map.1 hq
    exact ⟨p, hp, h⟩
  · rintro ⟨p, hp, h⟩
    exact ⟨z p, List.mem_map.2 ⟨p, hp, rfl⟩, h⟩
theorem out_set {n : Int} (hn : 1 ≤ n) (l : List Sp) (t : Int) : Mem10 (l.map (zO n)) t ↔ ∃ u, Mem10 l u ∧ floorZ u n = floorZ t n := by
  rw [Mem10.map]
  constructor
  · rintro ⟨p, hp, h⟩
    obtain ⟨u, hu, e⟩ := (out_iff hn p t).1 h
    exact ⟨u, ⟨p, hp, hu⟩, e⟩
  · rintro ⟨u, ⟨p, hp, hu⟩, e⟩
    exact ⟨p, hp, (out_iff hn p t).2 ⟨u, hu, e⟩⟩
theorem in_set {n : Int} (hn : 1 ≤ n) {l : List Sp} (hl : InForm l) (t : Int) : Mem10 (l.map (zI n)) t ↔ ∀ u, floorZ u n = floorZ t n → Mem10 l u := by
  rw [Mem10.map]
  constructor
  · rintro ⟨p, hp, h⟩ u hu
    have h2 := (in_iff hn p t).1 h
    have := fl_le hn u
    exact ⟨p, hp, by omega, by omega⟩
  · intro h
    obtain ⟨s, hs, h1, h2⟩ := h (floorZ t n) (fl_fl hn t)
    refine ⟨s, hs, (in_iff hn s t).2 ⟨h1, ?_⟩⟩
    rcases Int.lt_or_le s.2 (floorZ t n + n) with h3 | h3
    · obtain ⟨s', hs', k1, k2⟩ := h s.2 (fl_of hn (by omega) h3)
      have hne := hl.ne s' hs'
      rcases form_pair hl hs hs' with rfl | h5 | h5 <;> omega
    · exact h3
/-- All spans of a set, bounded: those of its form too. -/
theorem wE_eq (n : Int) (l : List Sp) : wE n (eO n) (ofM l) = rE n l := by
  unfold wE rE
  by_cases hw : widthB n = true
  · rw [if_pos hw, if_pos hw]
    obtain ⟨hf, hm, hends⟩ := ofM_ok l
    have key : (ofM l).all (fun p => decide (eO n p = 0)) = !(l.any badB) := by
      rw [Bool.eq_iff_iff, List.all_eq_true, Bool.not_eq_true', List.any_eq_false]
      constructor
      · intro h p hp hb
        unfold badB at hb
        simp only [Bool.and_eq_true, decide_eq_true_eq] at hb
        have hlt : p.1 < p.2 := hb.1
        have fit : ∀ s ∈ ofM l, Fit s.1 ∧ Fit s.2 := fun s hs => ((eO_iff hw s).1).1 (by simpa using h s hs)
        obtain ⟨s, hs, a1, a2⟩ := (hm p.1).2 ⟨p, hp, Int.le_refl _, hlt⟩
        obtain ⟨s', hs', b1, b2⟩ := (hm (p.2 - 1)).2 ⟨p, hp, by omega, by omega⟩
        have f1 := fit s hs
        have f2 := fit s' hs'
        unfold Fit at f1 f2
        have g1 : boundB p.1 = true := fit_iff.2 ⟨by omega, by omega⟩
        have g2 : boundB p.2 = true := fit_iff.2 ⟨by omega, by omega⟩
        rw [g1, g2] at hb
        simp at hb
      · intro h s hs
        obtain ⟨x, y, hx, hy, nx, ny, e1, e2⟩ := hends s hs
        have fit : ∀ p ∈ l, p.1 < p.2 → Fit p.1 ∧ Fit p.2 := fun p hp hlt => by
          have := h p hp
          unfold badB at this
          rw [decide_eq_true (show p.2 > p.1 from hlt), Bool.true_and] at this
          rw [← fit_iff, ← fit_iff]
          cases h2 : boundB p.1 <;> cases h3 : boundB p.2 <;> simp [h2, h3] at this ⊢
        exact decide_eq_true ((eO_iff hw s).1.2 ⟨by rw [e1]; exact (fit x hx nx).1, by rw [e2]; exact (fit y hy ny).2⟩)
    rw [key]
    cases l.any badB <;> rfl
  · rw [if_neg hw, if_neg hw]
def OutM (n : Int) (l : List Sp) : List Sp := if rE n l = 0 then ofM (l.map (zO n)) else []
def InM (n : Int) (l : List Sp) : List Sp := if rE n l = 0 then ofM ((ofM l).map (zI n)) else []
theorem rE_all {n : Int} {l : List Sp} (h : rE n l = 0) : ∀ p ∈ ofM l, eO n p = 0 := by
  obtain ⟨hw, hfit⟩ := rE_ok h
  intro s hs
  obtain ⟨x, y, hx, hy, nx, ny, e1, e2⟩ := (ofM_ok l).2.2 s hs
  exact (eO_iff (wid_iff.2 hw) s).1.2 ⟨by rw [e1]; exact (hfit x hx nx).1, by rw [e2]; exact (hfit y hy ny).2⟩
theorem wOut_eq (n : Int) (l : List Sp) : wM n (eO n) (zOE n) (ofM l) = OutM n l := by
  unfold wM OutM
  rw [wE_eq]
  by_cases h : rE n l = 0
  · rw [if_pos h, if_pos h]
    have hn := (rE_ok h).1.1
    have e : (ofM l).map (zOE n) = (ofM l).map (zO n) := List.map_congr_left fun p hp => zOE_eq (rE_all h p hp)
    rw [e]
    refine (form_eq (ofM_ok _).1 (ofM_ok _).1).2 fun t => ?_
    rw [of_has, of_has, hasL_ext, out_set hn, out_set hn]
    constructor
    · rintro ⟨u, hu, e⟩; exact ⟨u, ((ofM_ok l).2.1 u).1 hu, e⟩
    · rintro ⟨u, hu, e⟩; exact ⟨u, ((ofM_ok l).2.1 u).2 hu, e⟩
  · rw [if_neg h, if_neg h]
theorem wIn_eq (n : Int) (l : List Sp) : wM n (eO n) (zIE n) (ofM l) = InM n l := by
  unfold wM InM
  rw [wE_eq]
  by_cases h : rE n l = 0
  · rw [if_pos h, if_pos h]
    rw [List.map_congr_left fun p hp => zIE_eq (rE_all h p hp)]
  · rw [if_neg h, if_neg h]
theorem dOut_eq (n : Int) (l : List Sp) : dOut n l = OutM n l := by unfold dOut OutM; rw [of_ref]
theorem dIn_eq (n : Int) (l : List Sp) : dIn n l = InM n l := by unfold dIn InM; rw [of_ref, of_ref l]
theorem Out10_c (l : List Sp) (n : Int) (hl : l.length ≤ 1099511627776) : Fun Try.prog 11 [rdP l, I64 n] (· = .tup [rdP (OutM n l), I64 (rE n l)]) := by
  have := pOut_c l n hl
  rw [wOut_eq, wE_eq] at this; exact this
theorem In10_c (l : List Sp) (n : Int) (hl : l.length ≤ 1099511627776) : Fun Try.prog 12 [rdP l, I64 n] (· = .tup [rdP (InM n l), I64 (rE n l)]) := by
  have := pIn_c l n hl
  rw [wIn_eq, wE_eq] at this; exact this
theorem dOut_c (l : List Sp) (n : Int) (hl : l.length ≤ 34359738368) : Fun Try.prog 13 [rdP l, I64 n] (· = .tup [rdP (OutM n l), I64 (rE n l)]) := by
  have := rOut10_c l n hl
  rw [dOut_eq] at this; exact this
theorem dIn_c (l : List Sp) (n : Int) (hl : l.length ≤ 34359738368) : Fun Try.prog 14 [rdP l, I64 n] (· = .tup [rdP (InM n l), I64 (rE n l)]) := by
  have := rIn10_c l n hl
  rw [dIn_eq] at this; exact this
theorem dOf_c (l : List Sp) (hl : l.length ≤ 68719476736) : Fun Try.prog 17 [rdP l] (· = rdP (ofM l)) := by
  have := rOf_c l hl
  rw [← of_ref] at this; exact this
theorem dOr_c (a b : List Sp) (ha : a.length ≤ 34359738368) (hb : b.length ≤ 34359738368) : Fun Try.prog 19 [rdP a, rdP b] (· = rdP (bothM orG a b)) := by
  have := rOr_c a b (by omega) (by omega)
  rw [← or_ref] at this; exact this
theorem dAnd_c (a b : List Sp) (ha : a.length ≤ 34359738368) (hb : b.length ≤ 34359738368) : Fun Try.prog 21 [rdP a, rdP b] (· = rdP (bothM andG a b)) := by
  have := rAnd_c a b (by omega) (by omega)
  rw [← and_ref] at this; exact this
theorem dMinus_c (a b : List Sp) (ha : a.length ≤ 34359738368) (hb : b.length ≤ 34359738368) : Fun Try.prog 23 [rdP a, rdP b] (· = rdP (bothM minG a b)) := by
  have := rMinus_c a b (by omega) (by omega)
  rw [← minus_ref] at this; exact this
end Go.Proofs.Ytoekdjdgeleelaa
namespace Go.Proofs.Ytoekdjdgeleelaa
open Go.RowKit Go.DL

theorem w1 : ofM [(5, 9), (1, 3), (3, 4), (8, 8), (7, 12)] = [(1, 4), (5, 12)] := by
  refine form_uniq (ofM_ok _).1 ⟨by simp, by simp⟩ fun t => ?_
  rw [(ofM_ok _).2.1]
  unfold Mem10
  simp
  omega
theorem w2 : bothM minG [(0, 10)] [(3, 5)] = [(0, 3), (5, 10)] := by
  refine (form_eq (bothM_ok (g := minG) rfl _ _).1 ⟨by simp, by simp⟩).2 fun t => ?_
  rw [(bothM_ok (g := minG) rfl _ _).2, Bool.eq_iff_iff]
  unfold minG hasL
  simp
  omega
theorem w3 : ofM [(3, 7), (7, 12)] = [(3, 12)] := by
  refine form_uniq (ofM_ok _).1 ⟨by simp, by simp⟩ fun t => ?_
  rw [(ofM_ok _).2.1]
  unfold Mem10
  simp
  omega
theorem w4 : ofM [(5, 10)] = [(5, 10)] := by
  refine form_uniq (ofM_ok _).1 ⟨by simp, by simp⟩ fun t => ?_
  rw [(ofM_ok _).2.1]
theorem w5 : rE 5 [(3, 7), (7, 12)] = 0 := by decide
theorem w6 : InM 5 [(3, 7), (7, 12)] = [(5, 10)] := by
  unfold InM
  rw [if_pos w5, w3, show [(3, 12)].map (zI 5) = [(5, 10)] by decide, w4]
set_option maxHeartbeats 4000000 in
theorem sp_c (a b : Int) : Fun Try.prog 35 [I64 a, I64 b] (· = SP a b) := by
  refine Fun.of Try.func35 rfl (Nat.le_of_ble_eq_true rfl) fun C => ?_
  refine WC.seq fun Fh1_ h1_ => ?_
  refine WC.region ?_
  refine RG.op _ _ rfl rfl (o_alloc (z_of Ty.inf36) rfl) ?_
  refine RG.nil (h1_ _ ?_)
  refine WC.seq fun Fh2_ h2_ => ?_
  refine WC.region ?_
  refine RG.op _ _ rfl rfl (o_move (.v _) rfl) ?_
  refine RG.op _ _ rfl rfl (o_move (.v _) rfl) ?_
  refine RG.op _ _ rfl rfl (o_build (cs := [(.v _), (.v _)]) Try.underlying36 Ty.inf36 (Ty.pl36 Try.underlying36) rfl) ?_
  refine RG.op _ _ rfl rfl (o_store (d := (.agg [_, _])) rfl rfl rfl rfl (sz_of Ty.inf36) (Nat.le_of_ble_eq_true rfl) rfl) ?_
  refine RG.nil (h2_ _ ?_)
  refine WC.ret ?_
  exact Ends.r1 rfl (.agg rfl Try.underlying36 rfl (sz_of Ty.inf36) rfl rfl rfl) (.pure' (by exact pu_of rfl)) (rfl)
set_option maxRecDepth 20000 in
set_option maxHeartbeats 4000000 in
theorem wakes10_c : Fun Try.prog 9 [] (· = Bo true) := by
  refine Fun.of Try.func9 rfl (Nat.le_of_ble_eq_true rfl) fun C => ?_
  refine WC.seq fun Fh1_ h1_ => ?_
  refine WC.region ?_
  refine RG.op _ _ rfl rfl (o_assign (.v _) rfl) ?_
  refine RG.nil (h1_ _ ?_)
  refine WC.seq fun Fh2_ h2_ => ?_
  refine WC.region ?_
  refine RG.op _ _ rfl rfl (o_call Ty.cal35 (sp_c _ _) ⟨.inl rfl, .inl rfl, trivial⟩ (by exact pua rfl)) ?_
  refine RG.op _ _ rfl rfl (o_call Ty.cal35 (sp_c _ _) ⟨.inl rfl, .inl rfl, trivial⟩ (by exact pua rfl)) ?_
  refine RG.op _ _ rfl rfl (o_call Ty.cal35 (sp_c _ _) ⟨.inl rfl, .inl rfl, trivial⟩ (by exact pua rfl)) ?_
  refine RG.op _ _ rfl rfl (o_call Ty.cal35 (sp_c _ _) ⟨.inl rfl, .inl rfl, trivial⟩ (by exact pua rfl)) ?_
  refine RG.op _ _ rfl rfl (o_call Ty.cal35 (sp_c _ _) ⟨.inl rfl, .inl rfl, trivial⟩ (by exact pua rfl)) ?_
  refine RG.op _ _ rfl rfl (o_litP (cs := [_, _, _, _, _, _, _, _, _, _]) Try.underlying22 Ty.inf36 rfl rfl rfl rfl (by repeat (first | exact pu_pcs _ | exact pu_bytes _ | exact pu_nil | exact pu_vs rfl | exact pu_map (fun _ => .v _) _ | exact pu_vals _ | refine pu_app ?_ ?_ | refine pu_cons (by exact pu_of rfl) ?_))) ?_
  refine RG.op _ _ rfl rfl (o_call (ds := [rdP [(5, 9), (1, 3), (3, 4), (8, 8), (7, 12)]]) Ty.cal16 (Of_c _ (by simp)) ⟨.inl rfl, trivial⟩ (by exact pua rfl)) ?_
  refine RG.op _ _ rfl rfl (o_assign (.rd _ _) rfl) ?_
  refine RG.nil (h2_ _ ?_)
  refine WC.seq fun Fh3_ h3_ => ?_
  refine WC.region ?_
  refine RG.op _ _ rfl rfl (o_call Ty.cal35 (sp_c _ _) ⟨.inl rfl, .inl rfl, trivial⟩ (by exact pua rfl)) ?_
  refine RG.op _ _ rfl rfl (o_litP (cs := [_, _]) Try.underlying22 Ty.inf36 rfl rfl rfl rfl (by repeat (first | exact pu_pcs _ | exact pu_bytes _ | exact pu_nil | exact pu_vs rfl | exact pu_map (fun _ => .v _) _ | exact pu_vals _ | refine pu_app ?_ ?_ | refine pu_cons (by exact pu_of rfl) ?_))) ?_
  refine RG.op _ _ rfl rfl (o_call Ty.cal35 (sp_c _ _) ⟨.inl rfl, .inl rfl, trivial⟩ (by exact pua rfl)) ?_
  refine RG.op _ _ rfl rfl (o_litP (cs := [_, _]) Try.underlying22 Ty.inf36 rfl rfl rfl rfl (by repeat (first | exact pu_pcs _ | exact pu_bytes _ | exact pu_nil | exact pu_vs rfl | exact pu_map (fun _ => .v _) _ | exact pu_vals _ | refine pu_app ?_ ?_ | refine pu_cons (by exact pu_of rfl) ?_))) ?_
  refine RG.op _ _ rfl rfl (o_call (ds := [rdP [(0, 10)], rdP [(3, 5)]]) Ty.cal22 (Minus_c _ _ (by simp) (by simp)) ⟨.inl rfl, .inl rfl, trivial⟩ (by exact pua rfl)) ?_
  refine RG.op _ _ rfl rfl (o_assign (.rd _ _) rfl) ?_
  refine RG.nil (h3_ _ ?_)
  refine WC.seq fun Fh4_ h4_ => ?_
  refine WC.region ?_
  refine RG.op _ _ rfl rfl (o_call Ty.cal35 (sp_c _ _) ⟨.inl rfl, .inl rfl, trivial⟩ (by exact pua rfl)) ?_
  refine RG.op _ _ rfl rfl (o_call Ty.cal35 (sp_c _ _) ⟨.inl rfl, .inl rfl, trivial⟩ (by exact pua rfl)) ?_
  refine RG.op _ _ rfl rfl (o_litP (cs := [_, _, _, _]) Try.underlying22 Ty.inf36 rfl rfl rfl rfl (by repeat (first | exact pu_pcs _ | exact pu_bytes _ | exact pu_nil | exact pu_vs rfl | exact pu_map (fun _ => .v _) _ | exact pu_vals _ | refine pu_app ?_ ?_ | refine pu_cons (by exact pu_of rfl) ?_))) ?_
  refine RG.op _ _ rfl rfl (o_call (ds := [rdP [(3, 7), (7, 12)], I64 5]) Ty.cal12 (In10_c _ 5 (by simp)) ⟨.inl rfl, .inl (rfl : _ = I64 5), trivial⟩ (by exact pua rfl)) ?_
  refine RG.op _ _ rfl rfl (o_move (.tup _) rfl) ?_
  refine RG.op _ _ rfl rfl (o_extract rfl rfl) ?_
  refine RG.op _ _ rfl rfl (o_extract rfl rfl) ?_
  refine RG.op _ _ rfl rfl (o_assign (.rd _ _) rfl) ?_
  refine RG.op _ _ rfl rfl (o_assign (.v _) rfl) ?_
  refine RG.nil (h4_ _ ?_)
  refine WC.seq fun Fh5_ h5_ => ?_
  refine WC.region ?_
  refine RG.op _ _ rfl rfl (o_move (.rd _ _) rfl) ?_
  refine RG.op _ _ rfl rfl (o_call Ty.cal35 (sp_c _ _) ⟨.inl rfl, .inl rfl, trivial⟩ (by exact pua rfl)) ?_
  refine RG.op _ _ rfl rfl (o_call Ty.cal35 (sp_c _ _) ⟨.inl rfl, .inl rfl, trivial⟩ (by exact pua rfl)) ?_
  refine RG.op _ _ rfl rfl (o_litP (cs := [_, _, _, _]) Try.underlying22 Ty.inf36 rfl rfl rfl rfl (by repeat (first | exact pu_pcs _ | exact pu_bytes _ | exact pu_nil | exact pu_vs rfl | exact pu_map (fun _ => .v _) _ | exact pu_vals _ | refine pu_app ?_ ?_ | refine pu_cons (by exact pu_of rfl) ?_))) ?_
  refine RG.op _ _ rfl rfl (o_call (ds := [rdP (ofM [(5, 9), (1, 3), (3, 4), (8, 8), (7, 12)]), rdP [(1, 4), (5, 12)]]) Ty.cal15 (rsame10_c _ _ (by rw [w1]; decide) (by simp)) ⟨.inl rfl, .inl rfl, trivial⟩ (by exact pua rfl)) ?_
  refine RG.op _ _ rfl rfl (o_move (.v _) rfl) ?_
  refine RG.opg1 _ _ _ _ _ rfl rfl rfl rfl rfl (fun hb => o_move (.rd _ _) rfl) ?_
  refine RG.opg1 _ _ _ _ _ rfl rfl rfl rfl rfl (fun hb => o_call Ty.cal35 (sp_c _ _) ⟨.inl rfl, .inl rfl, trivial⟩ (by exact pua rfl)) ?_
  refine RG.opg1 _ _ _ _ _ rfl rfl rfl rfl rfl (fun hb => o_call Ty.cal35 (sp_c _ _) ⟨.inl rfl, .inl rfl, trivial⟩ (by exact pua rfl)) ?_
  refine RG.opg1 _ _ _ _ _ rfl rfl rfl rfl rfl (fun hb => OpD.weak (env' := fun k => bif Nat.beq k 31 then SP 0 3 else bif Nat.beq k 32 then SP 5 10 else .any) (o_litP (cs := [I64 0, I64 3, I64 5, I64 10]) Try.underlying22 Ty.inf36 rfl rfl rfl rfl (by repeat (first | exact pu_pcs _ | exact pu_bytes _ | exact pu_nil | exact pu_vs rfl | exact pu_map (fun _ => .v _) _ | exact pu_vals _ | refine pu_app ?_ ?_ | refine pu_cons (by exact pu_of rfl) ?_))) (fun x hx => by simp [Op.operands] at hx; rcases hx with rfl | rfl; exact .inl (gdT hb); exact .inl (gdT hb))) ?_
  refine RG.opg1 _ _ _ _ _ rfl rfl rfl rfl rfl (fun hb => o_call (ds := [rdP (bothM minG [(0, 10)] [(3, 5)]), rdP [(0, 3), (5, 10)]]) Ty.cal15 (rsame10_c _ _ (by rw [w2]; decide) (by simp)) ⟨.inl (gdT hb), .inl (gdT hb), trivial⟩ (by exact pua rfl)) ?_
  refine RG.op _ _ rfl rfl (o_and _ _ rfl rfl rfl) ?_
  refine RG.op _ _ rfl rfl (o_move (.v _) rfl) ?_
  refine RG.opg1 _ _ _ _ _ rfl rfl rfl rfl rfl (fun hb => o_move (.v _) rfl) ?_
  refine RG.opg1 _ _ _ _ _ rfl rfl rfl rfl rfl (fun hb => o_eqI (gdT hb) rfl) ?_
  refine RG.op _ _ rfl rfl (o_and _ _ rfl rfl rfl) ?_
  refine RG.op _ _ rfl rfl (o_move (.v _) rfl) ?_
  refine RG.opg1 _ _ _ _ _ rfl rfl rfl rfl rfl (fun hb => o_move (.rd _ _) rfl) ?_
  refine RG.opg1 _ _ _ _ _ rfl rfl rfl rfl rfl (fun hb => o_call Ty.cal35 (sp_c _ _) ⟨.inl rfl, .inl rfl, trivial⟩ (by exact pua rfl)) ?_
  refine RG.opg1 _ _ _ _ _ rfl rfl rfl rfl rfl (fun hb => OpD.weak (env' := fun k => bif Nat.beq k 42 then SP 5 10 else .any) (o_litP (cs := [I64 5, I64 10]) Try.underlying22 Ty.inf36 rfl rfl rfl rfl (by repeat (first | exact pu_pcs _ | exact pu_bytes _ | exact pu_nil | exact pu_vs rfl | exact pu_map (fun _ => .v _) _ | exact pu_vals _ | refine pu_app ?_ ?_ | refine pu_cons (by exact pu_of rfl) ?_))) (fun x hx => by simp [Op.operands] at hx; subst hx; exact .inl (gdT hb))) ?_
  refine RG.opg1 _ _ _ _ _ rfl rfl rfl rfl rfl (fun hb => o_call (ds := [rdP (InM 5 [(3, 7), (7, 12)]), rdP [(5, 10)]]) Ty.cal15 (rsame10_c _ _ (by rw [w6]; decide) (by simp)) ⟨.inl (gdT hb), .inl (gdT hb), trivial⟩ (by exact pua rfl)) ?_
  refine RG.op _ _ rfl rfl (o_and _ _ rfl rfl rfl) ?_
  refine RG.op _ _ rfl rfl (o_move (.v _) rfl) ?_
  refine RG.opg1 _ _ _ _ _ rfl rfl rfl rfl rfl (fun hb => o_move (.rd _ _) rfl) ?_
  refine RG.opg1 _ _ _ _ _ rfl rfl rfl rfl rfl (fun hb => o_call (ds := [rdP (ofM [(5, 9), (1, 3), (3, 4), (8, 8), (7, 12)]), I64 11]) Ty.cal24 (pHas_c _ 11 (by rw [w1]; decide)) ⟨.inl (gdT hb), .inl rfl, trivial⟩ (by exact pua rfl)) ?_
  refine RG.op _ _ rfl rfl (o_and _ _ rfl rfl rfl) ?_
  refine RG.op _ _ rfl rfl (o_move (.v _) rfl) ?_
  refine RG.opg1 _ _ _ _ _ rfl rfl rfl rfl rfl (fun hb => o_move (.rd _ _) rfl) ?_
  refine RG.opg1 _ _ _ _ _ rfl rfl rfl rfl rfl (fun hb => o_call (ds := [rdP (ofM [(5, 9), (1, 3), (3, 4), (8, 8), (7, 12)]), I64 4]) Ty.cal24 (pHas_c _ 4 (by rw [w1]; decide)) ⟨.inl (gdT hb), .inl rfl, trivial⟩ (by exact pua rfl)) ?_
  refine RG.opg1 _ _ _ _ _ rfl rfl rfl rfl rfl (fun hb => o_not (gdT hb)) ?_
  refine RG.op _ _ rfl rfl (o_and _ _ rfl rfl rfl) ?_
  refine RG.op _ _ rfl rfl (o_assign (.v _) rfl) ?_
  refine RG.nil (h5_ _ ?_)
  refine WC.ret ?_
  exact Ends.r1 rfl (.tmp _ (.v _) rfl) (.v _) (congrArg Bo (by rw [w1, w2, w5, w6]; decide))
end Go.Proofs.Ytoekdjdgeleelaa
namespace Go.Proofs.Ytoekdjdgeleelaa
open Go.RowKit Go.DL

set_option maxRecDepth 20000 in
theorem spanR10 : Rds Try.prog 36 (fun _ : Int × Int => True) (fun p => [I64 p.1, I64 p.2]) := by
  refine Rds.map (α := Int × Int × Unit) (ok := fun p => (-9223372036854775808 ≤ p.1 ∧ p.1 ≤ 9223372036854775807) ∧ ((-9223372036854775808 ≤ p.2.1 ∧ p.2.1 ≤ 9223372036854775807) ∧ True)) (f := fun p => [I64 p.1] ++ ([I64 p.2.1] ++ [])) ?_ ?_
  · refine Rds.struct (tot := 1 + (1 + 0)) Try.underlying36 rfl ?_
    refine RdF.cons (P := Try.prog) (off := 0) (sz := 1) (tot := 1 + 0) (ok := fun n : Int => -9223372036854775808 ≤ n ∧ n ≤ 9223372036854775807) (f := fun n => [I64 n]) (ok' := fun p : Int × Unit => (-9223372036854775808 ≤ p.1 ∧ p.1 ≤ 9223372036854775807) ∧ True) (g := fun p => [I64 p.1] ++ []) rfl rfl ?_ ?_
    · exact Rds.i64 Try.underlying2
    refine RdF.cons (P := Try.prog) (sz := 1) (tot := 0) (ok := fun n : Int => -9223372036854775808 ≤ n ∧ n ≤ 9223372036854775807) (f := fun n => [I64 n]) (ok' := fun _ : Unit => True) (g := fun _ => []) rfl rfl ?_ ?_
    · exact Rds.i64 Try.underlying2
    · exact RdF.nil _
  · rintro ⟨a, b, _⟩ _
    exact ⟨(a, b), trivial, rfl⟩
set_option maxRecDepth 20000 in
theorem spansR : Rds Try.prog 22 (fun l : List Sp => l.length ≤ 9223372036854775807) (fun l => [rdP l]) :=
  Rds.map (Rds.slice Try.underlying22 rfl spanR10) fun l hl => ⟨l, hl.2, rfl⟩
theorem i64R10 : Rds Try.prog 2 (fun n : Int => -9223372036854775808 ≤ n ∧ n ≤ 9223372036854775807) (fun n => [I64 n]) := by exact Rds.i64 Try.underlying2
theorem OutM_len (n : Int) (l : List Sp) : (OutM n l).length ≤ l.length := by
  unfold OutM
  split
  · exact Nat.le_trans (ofM_len _) (by simp)
  · simp
theorem InM_len (n : Int) (l : List Sp) : (InM n l).length ≤ l.length := by
  unfold InM
  split
  · exact Nat.le_trans (ofM_len _) (by rw [List.length_map]; exact ofM_len _)
  · simp
theorem bothM_len (g : Bool → Bool → Bool) (a b : List Sp) : (bothM g a b).length ≤ (a.length + b.length) * 2 := by
  have h1 := bothJ_len g (ofM a) (ofM b) (TM a b) ((TM a b).length - 1)
  have h2 := TM_len a b
  unfold bothM; omega
theorem great_no {l : List (List Sp)} (h : (l.any fun a => decide (a.length > 40)) = false) : ∀ a ∈ l, a.length ≤ 40 := fun a ha => by
  have := List.any_eq_false.1 h a ha
  simpa using this
set_option maxRecDepth 20000 in
set_option maxHeartbeats 4000000 in
theorem tells10_c (a : List Sp) (ha : a.length ≤ 9223372036854775807) (b : List Sp) (hb : b.length ≤ 9223372036854775807) (n : Int) (hn : -9223372036854775808 ≤ n ∧ n ≤ 9223372036854775807) (t : Int) (ht : -9223372036854775808 ≤ t ∧ t ≤ 9223372036854775807) : Fun Try.prog 3 [rdP a, rdP b, I64 n, I64 t] (· = Bo true) := by
  refine Fun.of Try.func3 rfl (Nat.le_of_ble_eq_true rfl) fun C => ?_
  refine WC.seq fun Fh1_ h1_ => ?_
  refine WC.region ?_
  refine RG.op _ _ rfl rfl (o_assign (.v _) rfl) ?_
  refine RG.nil (h1_ _ ?_)
  refine WC.seq fun Fh2_ h2_ => ?_
  refine WC.seq fun Fh3_ h3_ => ?_
  refine WC.region ?_
  refine RG.op _ _ rfl rfl (o_move (.rd _ _) rfl) ?_
  refine RG.op _ _ rfl rfl (o_move (.rd _ _) rfl) ?_
  refine RG.op _ _ rfl rfl (o_litP (cs := [rdP a, rdP b]) Try.underlying46 Ty.inf22 rfl rfl rfl rfl (pu_cons (by exact pu_of rfl) (pu_cons (by exact pu_of rfl) pu_nil))) ?_
  refine RG.op _ _ rfl rfl (o_call (ds := [rdPs [a, b]]) Ty.cal8 (great_c [a, b] (by simp) (by simp; omega)) ⟨.inl rfl, trivial⟩ (by exact pua rfl)) ?_
  refine RG.nil (h3_ _ ?_)
  refine WC.cond _ rfl (fun c1 => ?_) (fun c1 => ?_)
  ·
    have p1 := c1
    try simp only [CN] at p1
    refine WC.seq fun Fh4_ h4_ => ?_
    refine WC.region ?_
    refine RG.op _ _ rfl rfl (o_call Ty.cal9 (wakes10_c) trivial (by exact pua rfl)) ?_
    refine RG.op _ _ rfl rfl (o_assign (.v _) rfl) ?_
    refine RG.nil (h4_ _ ?_)
    refine WC.ret ?_
    exact Ends.r1 rfl (.tmp _ (.v _) rfl) (.v _) (rfl)
  ·
    have p1 := c1
    try simp only [CN] at p1
    have hg := great_no c1
    have ha40 := hg a (by simp)
    have hb40 := hg b (by simp)
    have q1 := OutM_len n a
    have q2 := InM_len n a
    have q3 := bothM_len orG a b
    have q4 := bothM_len andG a b
    have q5 := bothM_len minG a b
    have q6 := ofM_len a
    have q7 := ofM_len b
    refine WC.skip (h2_ _ ?_)
    refine WC.seq fun Fh5_ h5_ => ?_
    refine WC.region ?_
    refine RG.op _ _ rfl rfl (o_move (.rd _ _) rfl) ?_
    refine RG.op _ _ rfl rfl (o_call Ty.cal10 (own_c _ (by first | omega | exact ubyte _ | (simp only [LS, len_pcs] <;> omega))) ⟨.inl rfl, trivial⟩ (by exact pua rfl)) ?_
    refine RG.op _ _ rfl rfl (o_move (.rd _ _) rfl) ?_
    refine RG.op _ _ rfl rfl (o_call Ty.cal10 (own_c _ (by first | omega | exact ubyte _ | (simp only [LS, len_pcs] <;> omega))) ⟨.inl rfl, trivial⟩ (by exact pua rfl)) ?_
    refine RG.op _ _ rfl rfl (o_assign (.rd _ _) rfl) ?_
    refine RG.op _ _ rfl rfl (o_assign (.rd _ _) rfl) ?_
    refine RG.nil (h5_ _ ?_)
    refine WC.seq fun Fh6_ h6_ => ?_
    refine WC.region ?_
    refine RG.op _ _ rfl rfl (o_move (.rd _ _) rfl) ?_
    refine RG.op _ _ rfl rfl (o_move (.v _) rfl) ?_
    refine RG.op _ _ rfl rfl (o_call Ty.cal11 (Out10_c _ _ (by first | omega | exact ubyte _ | (simp only [LS, len_pcs] <;> omega))) ⟨.inl rfl, .inl rfl, trivial⟩ (by exact pua rfl)) ?_
    refine RG.op _ _ rfl rfl (o_move (.tup _) rfl) ?_
    refine RG.op _ _ rfl rfl (o_extract rfl rfl) ?_
    refine RG.op _ _ rfl rfl (o_extract rfl rfl) ?_
    refine RG.op _ _ rfl rfl (o_assign (.rd _ _) rfl) ?_
    refine RG.op _ _ rfl rfl (o_assign (.v _) rfl) ?_
    refine RG.nil (h6_ _ ?_)
    refine WC.seq fun Fh7_ h7_ => ?_
    refine WC.region ?_
    refine RG.op _ _ rfl rfl (o_move (.rd _ _) rfl) ?_
    refine RG.op _ _ rfl rfl (o_move (.v _) rfl) ?_
    refine RG.op _ _ rfl rfl (o_call Ty.cal12 (In10_c _ _ (by first | omega | exact ubyte _ | (simp only [LS, len_pcs] <;> omega))) ⟨.inl rfl, .inl rfl, trivial⟩ (by exact pua rfl)) ?_
    refine RG.op _ _ rfl rfl (o_move (.tup _) rfl) ?_
    refine RG.op _ _ rfl rfl (o_extract rfl rfl) ?_
    refine RG.op _ _ rfl rfl (o_extract rfl rfl) ?_
    refine RG.op _ _ rfl rfl (o_assign (.rd _ _) rfl) ?_
    refine RG.op _ _ rfl rfl (o_assign (.v _) rfl) ?_
    refine RG.nil (h7_ _ ?_)
    refine WC.seq fun Fh8_ h8_ => ?_
    refine WC.region ?_
    refine RG.op _ _ rfl rfl (o_move (.rd _ _) rfl) ?_
    refine RG.op _ _ rfl rfl (o_move (.v _) rfl) ?_
    refine RG.op _ _ rfl rfl (o_call Ty.cal13 (dOut_c _ _ (by first | omega | exact ubyte _ | (simp only [LS, len_pcs] <;> omega))) ⟨.inl rfl, .inl rfl, trivial⟩ (by exact pua rfl)) ?_
    refine RG.op _ _ rfl rfl (o_move (.tup _) rfl) ?_
    refine RG.op _ _ rfl rfl (o_extract rfl rfl) ?_
    refine RG.op _ _ rfl rfl (o_extract rfl rfl) ?_
    refine RG.op _ _ rfl rfl (o_assign (.rd _ _) rfl) ?_
    refine RG.op _ _ rfl rfl (o_assign (.v _) rfl) ?_
    refine RG.nil (h8_ _ ?_)
    refine WC.seq fun Fh9_ h9_ => ?_
    refine WC.region ?_
    refine RG.op _ _ rfl rfl (o_move (.rd _ _) rfl) ?_
    refine RG.op _ _ rfl rfl (o_move (.v _) rfl) ?_
    refine RG.op _ _ rfl rfl (o_call Ty.cal14 (dIn_c _ _ (by first | omega | exact ubyte _ | (simp only [LS, len_pcs] <;> omega))) ⟨.inl rfl, .inl rfl, trivial⟩ (by exact pua rfl)) ?_
    refine RG.op _ _ rfl rfl (o_move (.tup _) rfl) ?_
    refine RG.op _ _ rfl rfl (o_extract rfl rfl) ?_
    refine RG.op _ _ rfl rfl (o_extract rfl rfl) ?_
    refine RG.op _ _ rfl rfl (o_assign (.rd _ _) rfl) ?_
    refine RG.op _ _ rfl rfl (o_assign (.v _) rfl) ?_
    refine RG.nil (h9_ _ ?_)
    refine WC.seq fun Fh10_ h10_ => ?_
    refine WC.seq fun Fh11_ h11_ => ?_
    refine WC.region ?_
    refine RG.op _ _ rfl rfl (o_move (.rd _ _) rfl) ?_
    refine RG.op _ _ rfl rfl (o_call Ty.cal16 (Of_c _ (by first | omega | exact ubyte _ | (simp only [LS, len_pcs] <;> omega))) ⟨.inl rfl, trivial⟩ (by exact pua rfl)) ?_
    refine RG.op _ _ rfl rfl (o_move (.rd _ _) rfl) ?_
    refine RG.op _ _ rfl rfl (o_call Ty.cal17 (dOf_c _ (by first | omega | exact ubyte _ | (simp only [LS, len_pcs] <;> omega))) ⟨.inl rfl, trivial⟩ (by exact pua rfl)) ?_
    refine RG.op _ _ rfl rfl (o_call Ty.cal15 (rsame10_c _ _ (by first | omega | exact ubyte _ | (simp only [LS, len_pcs] <;> omega)) (by first | omega | exact ubyte _ | (simp only [LS, len_pcs] <;> omega))) ⟨.inl rfl, .inl rfl, trivial⟩ (by exact pua rfl)) ?_
    refine RG.op _ _ rfl rfl (o_not rfl) ?_
    refine RG.op _ _ rfl rfl (o_move (.v _) rfl) ?_
    refine RG.opg1 _ _ _ _ _ rfl rfl rfl rfl rfl (fun hb => o_move (.rd _ _) rfl) ?_
    refine RG.opg1 _ _ _ _ _ rfl rfl rfl rfl rfl (fun hb => o_move (.rd _ _) rfl) ?_
    refine RG.opg1 _ _ _ _ _ rfl rfl rfl rfl rfl (fun hb => o_call Ty.cal18 (Or_c _ _ (by first | omega | exact ubyte _ | (have hb' := hb; simp only [CN] at hb'; omega) | (simp only [LS, len_pcs] <;> omega) | (have hb' := hb; simp only [CN] at hb'; simp only [LS, len_pcs]; omega)) (by first | omega | exact ubyte _ | (have hb' := hb; simp only [CN] at hb'; omega) | (simp only [LS, len_pcs] <;> omega) | (have hb' := hb; simp only [CN] at hb'; simp only [LS, len_pcs]; omega))) ⟨.inl (gdT hb), .inl (gdT hb), trivial⟩ (by exact pua rfl)) ?_
    refine RG.opg1 _ _ _ _ _ rfl rfl rfl rfl rfl (fun hb => o_move (.rd _ _) rfl) ?_
    refine RG.opg1 _ _ _ _ _ rfl rfl rfl rfl rfl (fun hb => o_move (.rd _ _) rfl) ?_
    refine RG.opg1 _ _ _ _ _ rfl rfl rfl rfl rfl (fun hb => o_call Ty.cal19 (dOr_c _ _ (by first | omega | exact ubyte _ | (have hb' := hb; simp only [CN] at hb'; omega) | (simp only [LS, len_pcs] <;> omega) | (have hb' := hb; simp only [CN] at hb'; simp only [LS, len_pcs]; omega)) (by first | omega | exact ubyte _ | (have hb' := hb; simp only [CN] at hb'; omega) | (simp only [LS, len_pcs] <;> omega) | (have hb' := hb; simp only [CN] at hb'; simp only [LS, len_pcs]; omega))) ⟨.inl (gdT hb), .inl (gdT hb), trivial⟩ (by exact pua rfl)) ?_
    refine RG.opg1 _ _ _ _ _ rfl rfl rfl rfl rfl (fun hb => o_call Ty.cal15 (rsame10_c _ _ (by first | omega | exact ubyte _ | (have hb' := hb; simp only [CN] at hb'; omega) | (simp only [LS, len_pcs] <;> omega) | (have hb' := hb; simp only [CN] at hb'; simp only [LS, len_pcs]; omega)) (by first | omega | exact ubyte _ | (have hb' := hb; simp only [CN] at hb'; omega) | (simp only [LS, len_pcs] <;> omega) | (have hb' := hb; simp only [CN] at hb'; simp only [LS, len_pcs]; omega))) ⟨.inl (gdT hb), .inl (gdT hb), trivial⟩ (by exact pua rfl)) ?_
    refine RG.opg1 _ _ _ _ _ rfl rfl rfl rfl rfl (fun hb => o_not (gdT hb)) ?_
    refine RG.op _ _ rfl rfl (o_or _ _ rfl rfl rfl) ?_
    refine RG.op _ _ rfl rfl (o_move (.v _) rfl) ?_
    refine RG.opg1 _ _ _ _ _ rfl rfl rfl rfl rfl (fun hb => o_move (.rd _ _) rfl) ?_
    refine RG.opg1 _ _ _ _ _ rfl rfl rfl rfl rfl (fun hb => o_move (.rd _ _) rfl) ?_
    refine RG.opg1 _ _ _ _ _ rfl rfl rfl rfl rfl (fun hb => o_call Ty.cal20 (And_c _ _ (by first | omega | exact ubyte _ | (have hb' := hb; simp only [CN] at hb'; omega) | (simp only [LS, len_pcs] <;> omega) | (have hb' := hb; simp only [CN] at hb'; simp only [LS, len_pcs]; omega)) (by first | omega | exact ubyte _ | (have hb' := hb; simp only [CN] at hb'; omega) | (simp only [LS, len_pcs] <;> omega) | (have hb' := hb; simp only [CN] at hb'; simp only [LS, len_pcs]; omega))) ⟨.inl (gdT hb), .inl (gdT hb), trivial⟩ (by exact pua rfl)) ?_
    refine RG.opg1 _ _ _ _ _ rfl rfl rfl rfl rfl (fun hb => o_move (.rd _ _) rfl) ?_
    refine RG.opg1 _ _ _ _ _ rfl rfl rfl rfl rfl (fun hb => o_move (.rd _ _) rfl) ?_
    refine RG.opg1 _ _ _ _ _ rfl rfl rfl rfl rfl (fun hb => o_call Ty.cal21 (dAnd_c _ _ (by first | omega | exact ubyte _ | (have hb' := hb; simp only [CN] at hb'; omega) | (simp only [LS, len_pcs] <;> omega) | (have hb' := hb; simp only [CN] at hb'; simp only [LS, len_pcs]; omega)) (by first | omega | exact ubyte _ | (have hb' := hb; simp only [CN] at hb'; omega) | (simp only [LS, len_pcs] <;> omega) | (have hb' := hb; simp only [CN] at hb'; simp only [LS, len_pcs]; omega))) ⟨.inl (gdT hb), .inl (gdT hb), trivial⟩ (by exact pua rfl)) ?_
    refine RG.opg1 _ _ _ _ _ rfl rfl rfl rfl rfl (fun hb => o_call Ty.cal15 (rsame10_c _ _ (by first | omega | exact ubyte _ | (have hb' := hb; simp only [CN] at hb'; omega) | (simp only [LS, len_pcs] <;> omega) | (have hb' := hb; simp only [CN] at hb'; simp only [LS, len_pcs]; omega)) (by first | omega | exact ubyte _ | (have hb' := hb; simp only [CN] at hb'; omega) | (simp only [LS, len_pcs] <;> omega) | (have hb' := hb; simp only [CN] at hb'; simp only [LS, len_pcs]; omega))) ⟨.inl (gdT hb), .inl (gdT hb), trivial⟩ (by exact pua rfl)) ?_
    refine RG.opg1 _ _ _ _ _ rfl rfl rfl rfl rfl (fun hb => o_not (gdT hb)) ?_
    refine RG.op _ _ rfl rfl (o_or _ _ rfl rfl rfl) ?_
    refine RG.op _ _ rfl rfl (o_move (.v _) rfl) ?_
    refine RG.opg1 _ _ _ _ _ rfl rfl rfl rfl rfl (fun hb => o_move (.rd _ _) rfl) ?_
    refine RG.opg1 _ _ _ _ _ rfl rfl rfl rfl rfl (fun hb => o_move (.rd _ _) rfl) ?_
    refine RG.opg1 _ _ _ _ _ rfl rfl rfl rfl rfl (fun hb => o_call Ty.cal22 (Minus_c _ _ (by first | omega | exact ubyte _ | (have hb' := hb; simp only [CN] at hb'; omega) | (simp only [LS, len_pcs] <;> omega) | (have hb' := hb; simp only [CN] at hb'; simp only [LS, len_pcs]; omega)) (by first | omega | exact ubyte _ | (have hb' := hb; simp only [CN] at hb'; omega) | (simp only [LS, len_pcs] <;> omega) | (have hb' := hb; simp only [CN] at hb'; simp only [LS, len_pcs]; omega))) ⟨.inl (gdT hb), .inl (gdT hb), trivial⟩ (by exact pua rfl)) ?_
    refine RG.opg1 _ _ _ _ _ rfl rfl rfl rfl rfl (fun hb => o_move (.rd _ _) rfl) ?_
    refine RG.opg1 _ _ _ _ _ rfl rfl rfl rfl rfl (fun hb => o_move (.rd _ _) rfl) ?_
    refine RG.opg1 _ _ _ _ _ rfl rfl rfl rfl rfl (fun hb => o_call Ty.cal23 (dMinus_c _ _ (by first | omega | exact ubyte _ | (have hb' := hb; simp only [CN] at hb'; omega) | (simp only [LS, len_pcs] <;> omega) | (have hb' := hb; simp only [CN] at hb'; simp only [LS, len_pcs]; omega)) (by first | omega | exact ubyte _ | (have hb' := hb; simp only [CN] at hb'; omega) | (simp only [LS, len_pcs] <;> omega) | (have hb' := hb; simp only [CN] at hb'; simp only [LS, len_pcs]; omega))) ⟨.inl (gdT hb), .inl (gdT hb), trivial⟩ (by exact pua rfl)) ?_
    refine RG.opg1 _ _ _ _ _ rfl rfl rfl rfl rfl (fun hb => o_call Ty.cal15 (rsame10_c _ _ (by first | omega | exact ubyte _ | (have hb' := hb; simp only [CN] at hb'; omega) | (simp only [LS, len_pcs] <;> omega) | (have hb' := hb; simp only [CN] at hb'; simp only [LS, len_pcs]; omega)) (by first | omega | exact ubyte _ | (have hb' := hb; simp only [CN] at hb'; omega) | (simp only [LS, len_pcs] <;> omega) | (have hb' := hb; simp only [CN] at hb'; simp only [LS, len_pcs]; omega))) ⟨.inl (gdT hb), .inl (gdT hb), trivial⟩ (by exact pua rfl)) ?_
    refine RG.opg1 _ _ _ _ _ rfl rfl rfl rfl rfl (fun hb => o_not (gdT hb)) ?_
    refine RG.op _ _ rfl rfl (o_or _ _ rfl rfl rfl) ?_
    refine RG.op _ _ rfl rfl (o_move (.v _) rfl) ?_
    refine RG.opg1 _ _ _ _ _ rfl rfl rfl rfl rfl (fun hb => o_move (.v _) rfl) ?_
    refine RG.opg1 _ _ _ _ _ rfl rfl rfl rfl rfl (fun hb => o_move (.v _) rfl) ?_
    refine RG.opg1 _ _ _ _ _ rfl rfl rfl rfl rfl (fun hb => o_neI (gdT hb) (gdT hb)) ?_
    refine RG.op _ _ rfl rfl (o_or _ _ rfl rfl rfl) ?_
    refine RG.op _ _ rfl rfl (o_move (.v _) rfl) ?_
    refine RG.opg1 _ _ _ _ _ rfl rfl rfl rfl rfl (fun hb => o_move (.v _) rfl) ?_
    refine RG.opg1 _ _ _ _ _ rfl rfl rfl rfl rfl (fun hb => o_move (.v _) rfl) ?_
    refine RG.opg1 _ _ _ _ _ rfl rfl rfl rfl rfl (fun hb => o_neI (gdT hb) (gdT hb)) ?_
    refine RG.op _ _ rfl rfl (o_or _ _ rfl rfl rfl) ?_
    refine RG.op _ _ rfl rfl (o_move (.v _) rfl) ?_
    refine RG.opg1 _ _ _ _ _ rfl rfl rfl rfl rfl (fun hb => o_move (.rd _ _) rfl) ?_
    refine RG.opg1 _ _ _ _ _ rfl rfl rfl rfl rfl (fun hb => o_move (.rd _ _) rfl) ?_
    refine RG.opg1 _ _ _ _ _ rfl rfl rfl rfl rfl (fun hb => o_call Ty.cal15 (rsame10_c _ _ (by first | omega | exact ubyte _ | (have hb' := hb; simp only [CN] at hb'; omega) | (simp only [LS, len_pcs] <;> omega) | (have hb' := hb; simp only [CN] at hb'; simp only [LS, len_pcs]; omega)) (by first | omega | exact ubyte _ | (have hb' := hb; simp only [CN] at hb'; omega) | (simp only [LS, len_pcs] <;> omega) | (have hb' := hb; simp only [CN] at hb'; simp only [LS, len_pcs]; omega))) ⟨.inl (gdT hb), .inl (gdT hb), trivial⟩ (by exact pua rfl)) ?_
    refine RG.opg1 _ _ _ _ _ rfl rfl rfl rfl rfl (fun hb => o_not (gdT hb)) ?_
    refine RG.op _ _ rfl rfl (o_or _ _ rfl rfl rfl) ?_
    refine RG.op _ _ rfl rfl (o_move (.v _) rfl) ?_
    refine RG.opg1 _ _ _ _ _ rfl rfl rfl rfl rfl (fun hb => o_move (.rd _ _) rfl) ?_
    refine RG.opg1 _ _ _ _ _ rfl rfl rfl rfl rfl (fun hb => o_move (.rd _ _) rfl) ?_
    refine RG.opg1 _ _ _ _ _ rfl rfl rfl rfl rfl (fun hb => o_call Ty.cal15 (rsame10_c _ _ (by first | omega | exact ubyte _ | (have hb' := hb; simp only [CN] at hb'; omega) | (simp only [LS, len_pcs] <;> omega) | (have hb' := hb; simp only [CN] at hb'; simp only [LS, len_pcs]; omega)) (by first | omega | exact ubyte _ | (have hb' := hb; simp only [CN] at hb'; omega) | (simp only [LS, len_pcs] <;> omega) | (have hb' := hb; simp only [CN] at hb'; simp only [LS, len_pcs]; omega))) ⟨.inl (gdT hb), .inl (gdT hb), trivial⟩ (by exact pua rfl)) ?_
    refine RG.opg1 _ _ _ _ _ rfl rfl rfl rfl rfl (fun hb => o_not (gdT hb)) ?_
    refine RG.op _ _ rfl rfl (o_or _ _ rfl rfl rfl) ?_
    refine RG.nil (h11_ _ ?_)
    refine WC.cond _ rfl (fun c8 => ?_) (fun c8 => ?_)
    ·
      have p8 := c8
      try simp only [CN] at p8
      (simp at c8)
    ·
      have p8 := c8
      try simp only [CN] at p8
      refine WC.skip (h10_ _ ?_)
      refine WC.seq fun Fh12_ h12_ => ?_
      refine WC.region ?_
      refine RG.op _ _ rfl rfl (o_move (.rd _ _) rfl) ?_
      refine RG.op _ _ rfl rfl (o_move (.v _) rfl) ?_
      refine RG.op _ _ rfl rfl (o_call Ty.cal24 (pHas_c _ _ (by first | omega | exact ubyte _ | (simp only [LS, len_pcs] <;> omega))) ⟨.inl rfl, .inl rfl, trivial⟩ (by exact pua rfl)) ?_
      refine RG.op _ _ rfl rfl (o_move (.rd _ _) rfl) ?_
      refine RG.op _ _ rfl rfl (o_move (.v _) rfl) ?_
      refine RG.op _ _ rfl rfl (o_call Ty.cal25 (rhas_c _ _ (by first | omega | exact ubyte _ | (simp only [LS, len_pcs] <;> omega))) ⟨.inl rfl, .inl rfl, trivial⟩ (by exact pua rfl)) ?_
      refine RG.op _ _ rfl rfl (o_eqb rfl rfl Try.underlying4) ?_
      refine RG.op _ _ rfl rfl (o_move (.v _) rfl) ?_
      refine RG.opg1 _ _ _ _ _ rfl rfl rfl rfl rfl (fun hb => o_move (.rd _ _) rfl) ?_
      refine RG.opg1 _ _ _ _ _ rfl rfl rfl rfl rfl (fun hb => o_move (.rd _ _) rfl) ?_
      refine RG.opg1 _ _ _ _ _ rfl rfl rfl rfl rfl (fun hb => o_call Ty.cal26 (Same_c _ _ (by first | omega | exact ubyte _ | (have hb' := hb; simp only [CN] at hb'; omega) | (simp only [LS, len_pcs] <;> omega) | (have hb' := hb; simp only [CN] at hb'; simp only [LS, len_pcs]; omega)) (by first | omega | exact ubyte _ | (have hb' := hb; simp only [CN] at hb'; omega) | (simp only [LS, len_pcs] <;> omega) | (have hb' := hb; simp only [CN] at hb'; simp only [LS, len_pcs]; omega))) ⟨.inl (gdT hb), .inl (gdT hb), trivial⟩ (by exact pua rfl)) ?_
      refine RG.opg1 _ _ _ _ _ rfl rfl rfl rfl rfl (fun hb => o_move (.rd _ _) rfl) ?_
      refine RG.opg1 _ _ _ _ _ rfl rfl rfl rfl rfl (fun hb => o_call Ty.cal17 (dOf_c _ (by first | omega | exact ubyte _ | (have hb' := hb; simp only [CN] at hb'; omega) | (simp only [LS, len_pcs] <;> omega) | (have hb' := hb; simp only [CN] at hb'; simp only [LS, len_pcs]; omega))) ⟨.inl (gdT hb), trivial⟩ (by exact pua rfl)) ?_
      refine RG.opg1 _ _ _ _ _ rfl rfl rfl rfl rfl (fun hb => o_move (.rd _ _) rfl) ?_
      refine RG.opg1 _ _ _ _ _ rfl rfl rfl rfl rfl (fun hb => o_call Ty.cal17 (dOf_c _ (by first | omega | exact ubyte _ | (have hb' := hb; simp only [CN] at hb'; omega) | (simp only [LS, len_pcs] <;> omega) | (have hb' := hb; simp only [CN] at hb'; simp only [LS, len_pcs]; omega))) ⟨.inl (gdT hb), trivial⟩ (by exact pua rfl)) ?_
      refine RG.opg1 _ _ _ _ _ rfl rfl rfl rfl rfl (fun hb => o_call Ty.cal15 (rsame10_c _ _ (by first | omega | exact ubyte _ | (have hb' := hb; simp only [CN] at hb'; omega) | (simp only [LS, len_pcs] <;> omega) | (have hb' := hb; simp only [CN] at hb'; simp only [LS, len_pcs]; omega)) (by first | omega | exact ubyte _ | (have hb' := hb; simp only [CN] at hb'; omega) | (simp only [LS, len_pcs] <;> omega) | (have hb' := hb; simp only [CN] at hb'; simp only [LS, len_pcs]; omega))) ⟨.inl (gdT hb), .inl (gdT hb), trivial⟩ (by exact pua rfl)) ?_
      refine RG.opg1 _ _ _ _ _ rfl rfl rfl rfl rfl (fun hb => o_eqb (gdT hb) (gdT hb) Try.underlying4) ?_
      refine RG.op _ _ rfl rfl (o_and _ _ rfl rfl rfl) ?_
      refine RG.op _ _ rfl rfl (o_move (.v _) rfl) ?_
      refine RG.opg1 _ _ _ _ _ rfl rfl rfl rfl rfl (fun hb => o_move (.rd _ _) rfl) ?_
      refine RG.opg1 _ _ _ _ _ rfl rfl rfl rfl rfl (fun hb => o_move (.rd _ _) rfl) ?_
      refine RG.opg1 _ _ _ _ _ rfl rfl rfl rfl rfl (fun hb => o_call Ty.cal15 (rsame10_c _ _ (by first | omega | exact ubyte _ | (have hb' := hb; simp only [CN] at hb'; omega) | (simp only [LS, len_pcs] <;> omega) | (have hb' := hb; simp only [CN] at hb'; simp only [LS, len_pcs]; omega)) (by first | omega | exact ubyte _ | (have hb' := hb; simp only [CN] at hb'; omega) | (simp only [LS, len_pcs] <;> omega) | (have hb' := hb; simp only [CN] at hb'; simp only [LS, len_pcs]; omega))) ⟨.inl (gdT hb), .inl (gdT hb), trivial⟩ (by exact pua rfl)) ?_
      refine RG.op _ _ rfl rfl (o_and _ _ rfl rfl rfl) ?_
      refine RG.op _ _ rfl rfl (o_move (.v _) rfl) ?_
      refine RG.opg1 _ _ _ _ _ rfl rfl rfl rfl rfl (fun hb => o_move (.rd _ _) rfl) ?_
      refine RG.opg1 _ _ _ _ _ rfl rfl rfl rfl rfl (fun hb => o_move (.rd _ _) rfl) ?_
      refine RG.opg1 _ _ _ _ _ rfl rfl rfl rfl rfl (fun hb => o_call Ty.cal15 (rsame10_c _ _ (by first | omega | exact ubyte _ | (have hb' := hb; simp only [CN] at hb'; omega) | (simp only [LS, len_pcs] <;> omega) | (have hb' := hb; simp only [CN] at hb'; simp only [LS, len_pcs]; omega)) (by first | omega | exact ubyte _ | (have hb' := hb; simp only [CN] at hb'; omega) | (simp only [LS, len_pcs] <;> omega) | (have hb' := hb; simp only [CN] at hb'; simp only [LS, len_pcs]; omega))) ⟨.inl (gdT hb), .inl (gdT hb), trivial⟩ (by exact pua rfl)) ?_
      refine RG.op _ _ rfl rfl (o_and _ _ rfl rfl rfl) ?_
      refine RG.op _ _ rfl rfl (o_move (.v _) rfl) ?_
      refine RG.opg1 _ _ _ _ _ rfl rfl rfl rfl rfl (fun hb => o_call Ty.cal9 (wakes10_c) trivial (by exact pua rfl)) ?_
      refine RG.op _ _ rfl rfl (o_and _ _ rfl rfl rfl) ?_
      refine RG.op _ _ rfl rfl (o_assign (.v _) rfl) ?_
      refine RG.nil (h12_ _ ?_)
      refine WC.ret ?_
      exact Ends.r1 rfl (.tmp _ (.v _) rfl) (.v _) (congrArg Bo (by rw [show (a.any fun p => hasB p.1 p.2 t) = hasL a t from rfl]; simp))
end Go.Proofs.Ytoekdjdgeleelaa
