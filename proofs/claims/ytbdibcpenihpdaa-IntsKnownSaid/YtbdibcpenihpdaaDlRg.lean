/-
  A logic of data for the walks: yield called among the blocks of an iterator; an iterator's contract; the statement that ranges over a function. Of any program; no condition.
-/
import Derived.Test.YtbdibcpenihpdaaDlRf
set_option linter.unusedSimpArgs false
set_option linter.unusedVariables false
namespace Go.DL
open Go.RowKit

theorem rho_id {m n j : Nat} (h : j < m) : rho (List.range m) n j = j := by unfold rho; rw [List.getElem?_range h]
theorem ren_id {H0 : Heap} {n : Nat} {d : D} (h : OkD H0 d) : Ren (rho (List.range H0.length) n) d d := by
  induction h with
  | any => exact .pure _ .any
  | v x => exact .pure _ (.v _)
  | agg cs _ ih => exact .agg _ _ rfl fun j c d hc hd => by rw [hc] at hd; cases hd; exact ih c (List.mem_of_getElem? hc)
  | tup cs _ ih => exact .tup _ _ rfl fun j c d hc hd => by rw [hc] at hd; cases hd; exact ih c (List.mem_of_getElem? hc)
  | fn f cs _ ih => exact .fn _ _ _ rfl fun j c d hc hd => by rw [hc] at hd; cases hd; exact ih c (List.mem_of_getElem? hc)
  | iface t d _ ih => exact .iface _ _ _ ih
  | mp ks cs => exact .pure _ (.mp _ _)
  | rd n cs => exact .pure _ (.rd _ _)
  | adr cs => exact .pure _ (.adr _)
  | own id ver off n sz h => exact .own _ _ _ _ _ (rho_id h.lt)
  | ptr id ver off h => exact .ptr _ _ _ (rho_id h.lt)
  | omp id ver h => exact .omp _ _ (rho_id h.lt)
theorem renB_id {H0 : Heap} {n : Nat} : ∀ {l : List (Option Blk)}, OkH H0 l → All2 (RenB (rho (List.range H0.length) n)) l l
  | [], _ => trivial
  | none :: _, h => ⟨.nil, renB_id (l := _) h⟩
  | some b :: _, h => ⟨.blk ⟨rfl, rfl, rfl, rfl, fun j c d hc hd => by rw [hc] at hd; cases hd; exact ren_id (h.1 c (List.mem_of_getElem? hc))⟩, renB_id h.2⟩
theorem picks_range (own : Heap) : ∀ (l pre : List (Option Blk)), Picks (pre ++ l ++ own) (List.range' pre.length l.length) l
  | [], _ => trivial
  | b :: l, pre => by
    refine ⟨by simp, ?_⟩
    have := picks_range own l (pre ++ [b])
    simpa using this
theorem putI_range (own : Heap) : ∀ (l l' pre : List (Option Blk)), l'.length = l.length → putI (pre ++ l ++ own) (List.range' pre.length l.length) l' = pre ++ l' ++ own
  | [], [], _, _ => by simp [putI]
  | b :: l, b' :: l', pre, h => by
    have := putI_range own l l' (pre ++ [b']) (by simpa using h)
    simp only [List.length_append, List.length_cons, List.length_nil] at this
    rw [List.length_cons, List.range'_succ, putI]
    simpa using this
  | [], _ :: _, _, h => by simp at h
  | _ :: _, [], _, h => by simp at h
/-- What a round does to the blocks that its body has, whenever yield is called. -/
def YieldAt (P : Program) (l : Nat) (r : Loop) (S : Heap) (β0 : Nat → Nat → BT) (K0 : Mem) (H H' : Heap) (ds : List D) : Prop :=
  ∀ (K : Mem) (β : Nat → Nat → BT) (w : World) (vs : List Value), Mem.le K0 K → K l = some (.loop r) → Agr S β0 β → WS (given K β H w) K β H w → vs.length = ds.length → (∀ (j : Nat) v d, vs[j]? = some v → ds[j]? = some d → DR K β true v d) → (∀ d ∈ ds, OkD H d) →
    RoundT P l r vs.toArray w (Post K β H w fun o H'' => o = .ret (.v (.bool true)) ∧ H'' = H')
/-- A call within the loop l whose record is r. -/
structure InLoop (C : Ctx) (l : Nat) (r : Loop) (S : Heap) (β0 : Nat → Nat → BT) (K0 : Mem) : Prop where
  hW : C.W.heap[l]? = some (.loop r)
  hB : l < C.B
  hG : ¬ C.G l
  hb : C.hb = S
  b0 : C.b0 = β0
  kb : Mem.le K0 C.kb
  kl : C.kb l = some (.loop r)
theorem ren_all {ρ : Nat → Nat} : ∀ {ds : List D}, PureAll ds → All2 (Ren ρ) ds ds
  | [], _ => trivial
  | _ :: _, h => ⟨.pure _ h.1, ren_all h.2⟩
section
variable {P : Program} {C : Ctx} {env : Nat → D} {dst : Option Nat} {ty : TypeId} {pos : String} {after : Array Edge} {gu : Option (Nat × Bool)} {X : Operand}
/-- yield called where the iterator has blocks of its own behind those of the body. -/
theorem x_yieldF {as : List Operand} {ats : Array TypeId} {ds : List D} {l : Nat} {r : Loop} {S : Heap} {β0 : Nat → Nat → BT} {K0 : Mem} (H0 H0' own : Heap) (hX : ev env X = .v (.func (.yield l) #[] #[])) (hC : InLoop C l r S β0 K0) (hn : as.length = r.params.size) (he : ArgsAre env as ds) (hpu : PureAll ds)
    (hS : S.length = H0.length) (hlen : H0'.length = H0.length) (hok : OkH H0 H0) (hok' : OkH H0' H0') (hy : YieldAt P l r S β0 K0 H0 H0' ds) :
    OpX P C ⟨dst, .call { callee := .value X, args := as.toArray, argTypes := ats }, ty, pos, after, gu⟩ env (H0 ++ own) (fun o H'' => o = .ret (.v (.bool true)) ∧ H'' = H0' ++ own) := by
  refine x_yield hX hC.hW hC.hB hC.hG hn he fun K β w vs hw hl hv ho => ?_
  have hpk := picks_range own H0 []
  have hpt := putI_range own H0 H0' [] hlen
  rw [List.length_nil, ← List.range_eq_range', List.nil_append] at hpk hpt
  rw [List.nil_append] at hpt
  refine frameAt (T := RoundT P l r) (Q := fun o H'' => o = .ret (.v (.bool true)) ∧ H'' = H0') (Q' := fun o H'' => o = .ret (.v (.bool true)) ∧ H'' = H0' ++ own) (fun h hr => h.mono hr) (List.range H0.length) H0 (fun β1 e1 hs h1 h2 h3 => hy K β1 w vs (hC.kb.trans hw.kle) (hw.kle l _ hC.kl) (fun i v hv => ?_) hs h1 h2 h3) List.nodup_range hpk (renB_id hok) (ren_all hpu) (fun o0 H1 ⟨e1, e2⟩ => ?_) hw.give hl hv ho
  · have hi := hv.lt
    rw [e1, rho_id (by omega)]
    have := hw.agr
    rw [hC.hb, hC.b0] at this
    exact this i v hv
  · subst e1
    rw [e2]
    refine ⟨.ret (.v (.bool true)), H0', [], by simp [hlen], ?_, .ret (.pure _ (.v _)), rfl, by rw [hpt, List.append_nil]⟩
    rw [List.append_nil]
    have := renB_id (n := (H0 ++ own).length) hok'
    rwa [hlen] at this
end
/-- An iterator: it calls yield with xs 0, xs 1, .. in turn, n times, and returns; the body's blocks go from HH 0 to HH n. -/
def Iter (P : Program) (f : FuncId) (cs : List D) (ar : Nat) (HH : Nat → Heap) (n : Nat) (xs : Nat → List D) : Prop :=
  ∀ (l : Nat) (r : Loop) (K0 : Mem) (K : Mem) (β : Nat → Nat → BT) (w : World) (vs : List Value), (∀ k, k < n → YieldAt P l r (HH 0) β K0 (HH k) (HH (k + 1)) (xs k)) → r.params.size = ar → Mem.le K0 K → K l = some (.loop r) → WS (given K β (HH 0) w) K β (HH 0) w → vs.length = cs.length + 1 →
    (∀ (j : Nat) v d, vs[j]? = some v → (D.v (.func (.yield l) #[] #[]) :: cs)[j]? = some d → DR K β true v d) → (∀ d ∈ cs, OkD (HH 0) d) → Calls P f vs.toArray w (Post K β (HH 0) w fun o H' => (∃ d, o = .ret d) ∧ H' = HH n)
theorem inLoop_given {K K0 : Mem} {β : Nat → Nat → BT} {H : Heap} {w : World} {l : Nat} {r : Loop} (hw : WS (given K β H w) K β H w) (hK : Mem.le K0 K) (hKl : K l = some (.loop r)) : InLoop (given K β H w) l r H β K0 :=
  ⟨hw.holds l _ hKl, hw.klt hKl, (fun ⟨id, b, hb, hrl, e⟩ => by
    have := hw.apart id b hb hrl
    rw [e, hKl] at this
    cases this), rfl, rfl, hK, hKl⟩
/-- An iterator's contract, out of its body's walk. -/
theorem Iter.of {P : Program} {f : FuncId} {fn : Func} {c : Code} {cs : List D} {ar : Nat} {HH : Nat → Heap} {n : Nat} {xs : Nat → List D} (hf : P.funcs[f]? = some fn) (hb : fn.body = some c) (hn : cs.length + 1 ≤ fn.ntmps)
    (h : ∀ (C : Ctx) (l : Nat) (r : Loop) (β0 : Nat → Nat → BT) (K0 : Mem), InLoop C l r (HH 0) β0 K0 → r.params.size = ar → (∀ k, k < n → YieldAt P l r (HH 0) β0 K0 (HH k) (HH (k + 1)) (xs k)) → WC P C fn.ntmps c ⟨env0 (.v (.func (.yield l) #[] #[]) :: cs), HH 0⟩ (endM P fn (HH 0) fun o H' => (∃ d, o = .ret d) ∧ H' = HH n)) : Iter P f cs ar HH n xs := by
  intro l r K0 K β w vs hy har hK hKl hw hl hv ho
  have hh := h (given K β (HH 0) w) l r β K0 (inLoop_given hw hK hKl) har hy
  refine calls_fin hf hb rfl (hw.kB rfl) (hw.kB rfl) (hh K β _ w (enters (by simpa using hn) hw (by simpa using hl) hv (fun d hd => by rcases List.mem_cons.1 hd with rfl | hd; exact .v _; exact ho d hd))) fun e a' w' K' β' s' x hX hs' hdf hx hq => ?_
  have kept : ∀ {n : Nat} {H' : Heap}, Kept (HH 0) n s' H' → Ext (given K β (HH 0) w) K β (HH 0) K' β' H' ∧ WS (given K β (HH 0) w) K' β' H' w' := fun {n H'} hk => by
    obtain ⟨he, hn', hok⟩ := hk
    exact ⟨⟨hX.kx, hX.ag, he ▸ hX.le.take hn'⟩, he ▸ wsTake hs'.ws n (by rw [he]; exact hok.at) (hs'.ws.hle.take hn')⟩
  have fin : (∃ m H', Kept (HH 0) m s' H' ∧ EndsM P fn (fun d => (∃ d', DOut.ret d = .ret d') ∧ H' = HH n) H' s') → a'.defers = [] ∧ ∃ v, (results fn a'.tmps).run P w' = .ok v w' ∧ Post K β (HH 0) w (fun o H' => (∃ d, o = .ret d) ∧ H' = HH n) (.returned v) w' := by
    rintro ⟨m, H', hk, hE⟩
    obtain ⟨v, d, hr, hd, hz, hQ⟩ := hE _ _ K' β' a' w' hs'
    obtain ⟨k1, k2⟩ := kept hk
    exact ⟨hdf, v, hr, v, d, K', β', H', k1, k2, hd, hz, .inl ⟨rfl, hQ⟩⟩
  cases e <;> cases x <;> first
    | exact fin hq
    | exact hx.elim
    | exact hq.elim
    | (obtain ⟨n, H', hk, hz, ⟨d, hQ⟩, _⟩ := hq
       cases hQ)
theorem Marks.fresh {B n : Nat} {K : Mem} (hK : ∀ b c, K b = some c → b < n) : ∀ {ds : List Deferred}, Marks B K ds → ∀ d ∈ ds, d.target ≠ .collected n
  | [], _, d, hd => by cases hd
  | x :: ds, ⟨⟨r, h1, h2, _, _⟩, h⟩, d, hd => by
    rcases List.mem_cons.1 hd with rfl | hd
    · intro e
      rw [h1] at e
      cases e
      exact absurd (hK _ _ h2) (Nat.lt_irrefl _)
    · exact h.fresh hK d hd
/-- The statement that ranges over a function: its rounds run off their ends. -/
theorem WC.rangeFunc {P : Program} {C : Ctx} {N : Nat} {s : St} {Q : DX → St → Prop} {g : Operand} {ps : Array Tmp} {assign body : Code} {f : FuncId} {cs : List D} {ar : Nat} (HH : Nat → Heap) (n : Nat) (xs : Nat → List D) (hrd : C.rd = none) (hg : FnIs (ev s.env g) f cs) (hc : Callee P f) (h0 : HH 0 = s.H) (hHH : ∀ k, k ≤ n → HLe s.H (HH k)) (hmn : ∀ k, k < n → (HH k).length ≤ (HH (k + 1)).length) (har : ps.size = ar) (hps : ∀ p ∈ ps.toList, p < N)
    (hit : Iter P f cs ar HH n xs) (hb : ∀ k, k < n → ∀ C', WC P C' N assign ⟨updPs s.env ps.toList (xs k), HH k⟩ (thenQ (fun s1 => ∀ C'', WC P C'' N body s1 (bodyEnd (HH (k + 1)))) fun _ _ => False)) (hq : Q .normal ⟨s.env, HH n⟩) : WC P C N (.rangeFunc g ps assign body) s Q := by
  intro K β a w hs
  obtain ⟨us, eX, lu, du⟩ := fnD_frz hg (hs.ev g)
  have hcs : ∀ d ∈ cs, OkD s.H d := by
    rcases hg with h | ⟨_, rfl⟩
    · have := hs.evok g
      rw [h] at this
      cases this with
      | fn _ _ h => exact h
    · simp
  refine wpIn_rangeFunc fun fn _ => ?_
  let w1 := (w.alloc (.deferred (some [])))
  let r : Loop := { state := .ready, pending := none, fn, tmps := a.tmps, params := ps, assign, body, defers := w.heap.size }
  let w2 := w1.alloc (.loop r)
  have hsz : w1.heap.size = w.heap.size + 1 := by simp [w1]
  have hw1 := hs.ws.stillO (.deferred (some []))
  have hw2 := hw1.stillO (.loop r)
  let K1 := K.add w.heap.size (.deferred (some []))
  let K2 := K1.add w1.heap.size (.loop r)
  have hKl : K2 w1.heap.size = some (.loop r) := by show (if _ then _ else _) = _; rw [if_pos rfl]
  have hK1 : Mem.le K K1 := Mem.le_add hs.ws.fresh
  have hK2 : Mem.le K1 K2 := Mem.le_add hw1.fresh
  have hKd : K1 w.heap.size = some (.deferred (some [])) := by show (if _ then _ else _) = _; rw [if_pos rfl]
  have hBl : C.B ≤ w.heap.size := hs.ws.size
  refine ⟨w1.heap.size, [{ target := .collected w.heap.size, args := #[] }], w2, { target := .fn (.func f) us.toArray, args := #[.func (.yield w1.heap.size) #[] #[]] }, w2, f, (.func (.yield w1.heap.size) #[] #[] :: us).toArray, w2, ?_, ?_, fun _ _ => trivial, ?_, fun e => by simp [FW] at e, calls_FW ?_⟩
  · have := run_enterLoop_outer (P := P) (w := w) fn a.tmps ps assign body
    show (Instr.enterLoop fn a.tmps ps assign body C.rd).run P w = _
    rw [hrd, this, hsz]
  · simp [resolve, rangeCall, eX, Deferred.ofValue]; rfl
  · simp [invoke, hc.run]
  have hcall := hit w1.heap.size r K K2 β w2 (.func (.yield w1.heap.size) #[] #[] :: us) (fun k hk => ?_) har (hK1.trans hK2) hKl (by rw [h0]; exact hw2.give) (by simp [lu]) (fun j v d hv hd => ?_) (by rw [h0]; exact hcs)
  · refine hcall.mono fun e w3 ⟨v, d, K', β', H', k1, k2, k3, k4, k5⟩ => ?_
    rw [h0] at k1 k2
    rcases k5 with ⟨rfl, _, rfl⟩ | ⟨_, ⟨d', hd'⟩, _⟩
    · have j1 := Ext.up hw2 k1
      have j2 := hw2.back k2
      have hKl' : K' w1.heap.size = some (.loop r) := k1.kx.le _ _ hKl
      have hl3 := j2.holds _ _ hKl'
      refine ⟨r.pending, _, run_endLoop hl3 (by simp [r]), ?_⟩
      show AftX C N K β s.H Q .normal { a with defers := [{ target := .collected w.heap.size, args := #[] }] ++ a.defers } _
      have hkb : C.kb w1.heap.size = none := by
        cases e : C.kb w1.heap.size with
        | none => rfl
        | some c => have := hs.ws.klt (hs.ws.kle _ _ e); omega
      have hKle : Mem.le K (K'.del w1.heap.size) := fun b c hb' => by
        have := hs.ws.klt hb'
        unfold Mem.del
        rw [if_neg (by omega)]; exact k1.kx.le _ _ (hK2 _ _ (hK1 _ _ hb'))
      have hws := j2.drop hKl' (inert_loop r) (by omega) hkb (.loop { r with state := .exhausted })
      refine ⟨K'.del w1.heap.size, β', ⟨s.env, HH n⟩, .normal, ⟨⟨hKle, fun b c hb' => ?_⟩, j1.ag, hHH n (Nat.le_refl _)⟩, ⟨hws, hs.size, ⟨⟨w.heap.size, rfl, ?_, hBl, hs.defers.fresh fun b c hb' => hs.ws.klt hb'⟩, hs.defers.mono hKle⟩, fun t => (hs.rd t).mono hKle (fun _ => hs.ok t) j1.ag, fun t => (hs.ok t).mono (hHH n (Nat.le_refl _))⟩, trivial, hq⟩
      · unfold Mem.del at hb'
        by_cases e : b = w1.heap.size
        · rw [if_pos e] at hb'; cases hb'
        · rw [if_neg e] at hb'
          rcases j1.kx.new b c hb' with h1 | h1
          · have h2 : K1 b = some c := by
              have h1 : (if b = w1.heap.size then some (Obj.loop r) else K1 b) = some c := h1
              rwa [if_neg e] at h1
            by_cases e2 : b = w.heap.size
            · exact .inr (.inl (by omega))
            · have h2 : (if b = w.heap.size then some (Obj.deferred (some [])) else K b) = some c := h2
              rw [if_neg e2] at h2; exact .inl h2
          · exact .inr h1
      · unfold Mem.del
        rw [if_neg (by omega)]; exact k1.kx.le _ _ (hK2 _ _ hKd)
    · cases hd'
  · intro K3 β3 w3 vs hK3 hKl3 hag hw3 hl hv ho
    exact round_of hs ⟨rfl, rfl, rfl⟩ (hHH k (Nat.le_of_lt hk)) (hmn k hk) hps hK3 hKl3 (by rw [← h0]; exact hag) hw3 hl hv ho (hb k hk)
  · rcases j with _ | j
    · simp at hv hd; subst hv hd; exact .v _ _
    · exact (du j v d (by simpa using hv) (by simpa using hd)).mono (hK1.trans hK2) (fun _ => hcs d (List.mem_of_getElem? (by simpa using hd))) (Agr.refl _ _)
end Go.DL
