/-
  What the laws stand on, part 3 of 4: plain lemmas; no condition.
-/
import Derived.Test.YtpdjcfhmdeeikaaPlb
set_option linter.unusedSimpArgs false
set_option linter.unusedVariables false
set_option linter.unusedSectionVars false
namespace Go.DL
open Go.RowKit

theorem rho_id {m n j : Nat} (h : j < m) : rho (List.range m) n j = j := by unfold rho; rw [List.getElem?_range h]
theorem ren_id {H0 : Heap} {n : Nat} {d : D} (h : OkD H0 d) : Ren (rho (List.range H0.length) n) d d := by
  induction h with
  | any => exact .pure _ .any
  | v x => exact .pure _ (.v _)
  | agg cs _ ih => exact .agg _ _ rfl fun j c d hc hd => by rw [hc] at hd; cases hd; exact ih c (List.mem_of_getElem? hc)
  | tup cs _ ih => exact .tup _ _ rfl fun j c d hc hd => by rw [hc] at hd; cases hd; exact ih c (List.mem_of_getElem? hc)
  | fn f cs _ ih => exact .fn _ _ _ rfl fun j c d hc hd => by rw [hc] at hd; cases hd; exact ih c (List.mem_of_getElem? hc)
  | iface t d _ ih => exact .iface _ _ _ ih
  | mp ks cs => exact .pure _ (.mp _ _)
  | rd n cs => exact .pure _ (.rd _ _)
  | adr cs => exact .pure _ (.adr _)
  | own id ver off n sz h => exact .own _ _ _ _ _ (rho_id h.lt)
  | ptr id ver off h => exact .ptr _ _ _ (rho_id h.lt)
  | omp id ver h => exact .omp _ _ (rho_id h.lt)
theorem renB_id {H0 : Heap} {n : Nat} : ∀ {l : List (Option Blk)}, OkH H0 l → All2 (RenB (rho (List.range H0.length) n)) l l
  | [], _ => trivial
  | none :: _, h => ⟨.nil, renB_id (l := _) h⟩
  | some b :: _, h => ⟨.blk ⟨rfl, rfl, rfl, rfl, fun j c d hc hd => by rw [hc] at hd; cases hd; exact ren_id (h.1 c (List.mem_of_getElem? hc))⟩, renB_id h.2⟩
theorem picks_range (own : Heap) : ∀ (l pre : List (Option Blk)), Picks (pre ++ l ++ own) (List.range' pre.length l.length) l
  | [], _ => trivial
  | b :: l, pre => by
    refine ⟨by simp, ?_⟩
    have := picks_range own l (pre ++ [b])
    simpa using this
theorem putI_range (own : Heap) : ∀ (l l' pre : List (Option Blk)), l'.length = l.length → putI (pre ++ l ++ own) (List.range' pre.length l.length) l' = pre ++ l' ++ own
  | [], [], _, _ => by simp [putI]
  | b :: l, b' :: l', pre, h => by
    have := putI_range own l l' (pre ++ [b']) (by simpa using h)
    simp only [List.length_append, List.length_cons, List.length_nil] at this
    rw [List.length_cons, List.range'_succ, putI]
    simpa using this
  | [], _ :: _, _, h => by simp at h
  | _ :: _, [], _, h => by simp at h
/-- What a round does to the blocks that its body has, whenever yield is called. -/
def YieldAt (P : Program) (l : Nat) (r : Loop) (S : Heap) (β0 : Nat → Nat → BT) (K0 : Mem) (H H' : Heap) (ds : List D) : Prop :=
  ∀ (K : Mem) (β : Nat → Nat → BT) (w : World) (vs : List Value), Mem.le K0 K → K l = some (.loop r) → Agr S β0 β → WS (given K β H w) K β H w → vs.length = ds.length → (∀ (j : Nat) v d, vs[j]? = some v → ds[j]? = some d → DR K β true v d) → (∀ d ∈ ds, OkD H d) →
    RoundT P l r vs.toArray w (Post K β H w fun o H'' => o = .ret (.v (.bool true)) ∧ H'' = H')
/-- A call within the loop l whose record is r. -/
structure InLoop (C : Ctx) (l : Nat) (r : Loop) (S : Heap) (β0 : Nat → Nat → BT) (K0 : Mem) : Prop where
  hW : C.W.heap[l]? = some (.loop r)
  hB : l < C.B
  hG : ¬ C.G l
  hb : C.hb = S
  b0 : C.b0 = β0
  kb : Mem.le K0 C.kb
  kl : C.kb l = some (.loop r)
theorem ren_all {ρ : Nat → Nat} : ∀ {ds : List D}, PureAll ds → All2 (Ren ρ) ds ds
  | [], _ => trivial
  | _ :: _, h => ⟨.pure _ h.1, ren_all h.2⟩
section
variable {P : Program} {C : Ctx} {env : Nat → D} {dst : Option Nat} {ty : TypeId} {pos : String} {after : Array Edge} {gu : Option (Nat × Bool)} {X : Operand}
/-- yield called where the iterator has blocks of its own behind those of the body. -/
theorem x_yieldF {as_ : List Operand} {ats : Array TypeId} {ds : List D} {l : Nat} {r : Loop} {S : Heap} {β0 : Nat → Nat → BT} {K0 : Mem} (H0 H0' own : Heap) (hX : ev env X = .v (.func (.yield l) #[] #[])) (hC : InLoop C l r S β0 K0) (hn : as_.length = r.params.size) (he : ArgsAre env as_ ds) (hpu : PureAll ds)
    (hS : S.length = H0.length) (hlen : H0'.length = H0.length) (hok : OkH H0 H0) (hok' : OkH H0' H0') (hy : YieldAt P l r S β0 K0 H0 H0' ds) :
    OpX P C ⟨dst, .call { callee := .value X, args := as_.toArray, argTypes := ats }, ty, pos, after, gu⟩ env (H0 ++ own) (fun o H'' => o = .ret (.v (.bool true)) ∧ H'' = H0' ++ own) := by
  refine x_yield hX hC.hW hC.hB hC.hG hn he fun K β w vs hw hl hv ho => ?_
  have hpk := picks_range own H0 []
  have hpt := putI_range own H0 H0' [] hlen
  rw [List.length_nil, ← List.range_eq_range', List.nil_append] at hpk hpt
  rw [List.nil_append] at hpt
  refine frameAt (T := RoundT P l r) (Q := fun o H'' => o = .ret (.v (.bool true)) ∧ H'' = H0') (Q' := fun o H'' => o = .ret (.v (.bool true)) ∧ H'' = H0' ++ own) (fun h hr => h.mono hr) (List.range H0.length) H0 (fun β1 e1 hs h1 h2 h3 => hy K β1 w vs (hC.kb.trans hw.kle) (hw.kle l _ hC.kl) (fun i v hv => ?_) hs h1 h2 h3) List.nodup_range hpk (renB_id hok) (ren_all hpu) (fun o0 H1 ⟨e1, e2⟩ => ?_) hw.give hl hv ho
  · have hi := hv.lt
    rw [e1, rho_id (by omega)]
    have := hw.agr
    rw [hC.hb, hC.b0] at this
    exact this i v hv
  · subst e1
    rw [e2]
    refine ⟨.ret (.v (.bool true)), H0', [], by simp [hlen], ?_, .ret (.pure _ (.v _)), rfl, by rw [hpt, List.append_nil]⟩
    rw [List.append_nil]
    have := renB_id (n := (H0 ++ own).length) hok'
    rwa [hlen] at this
end
/-- An iterator: it calls yield with xs 0, xs 1, .. in turn, n times, and returns; the body's blocks go from HH 0 to HH n. -/
def Iter (P : Program) (f : FuncId) (cs : List D) (ar : Nat) (HH : Nat → Heap) (n : Nat) (xs : Nat → List D) : Prop :=
  ∀ (l : Nat) (r : Loop) (K0 : Mem) (K : Mem) (β : Nat → Nat → BT) (w : World) (vs : List Value), (∀ k, k < n → YieldAt P l r (HH 0) β K0 (HH k) (HH (k + 1)) (xs k)) → r.params.size = ar → Mem.le K0 K → K l = some (.loop r) → WS (given K β (HH 0) w) K β (HH 0) w → vs.length = cs.length + 1 →
    (∀ (j : Nat) v d, vs[j]? = some v → (D.v (.func (.yield l) #[] #[]) :: cs)[j]? = some d → DR K β true v d) → (∀ d ∈ cs, OkD (HH 0) d) → Calls P f vs.toArray w (Post K β (HH 0) w fun o H' => (∃ d, o = .ret d) ∧ H' = HH n)
theorem inLoop_given {K K0 : Mem} {β : Nat → Nat → BT} {H : Heap} {w : World} {l : Nat} {r : Loop} (hw : WS (given K β H w) K β H w) (hK : Mem.le K0 K) (hKl : K l = some (.loop r)) : InLoop (given K β H w) l r H β K0 :=
  ⟨hw.holds l _ hKl, hw.klt hKl, (fun ⟨id, b, hb, hrl, e⟩ => by
    have := hw.apart id b hb hrl
    rw [e, hKl] at this
    cases this), rfl, rfl, hK, hKl⟩
/-- An iterator's contract, out of its body's walk. -/
theorem Iter.of {P : Program} {f : FuncId} {fn : Func} {c : Code} {cs : List D} {ar : Nat} {HH : Nat → Heap} {n : Nat} {xs : Nat → List D} (hf : P.funcs[f]? = some fn) (hb : fn.body = some c) (hn : cs.length + 1 ≤ fn.ntmps)
    (h : ∀ (C : Ctx) (l : Nat) (r : Loop) (β0 : Nat → Nat → BT) (K0 : Mem), InLoop C l r (HH 0) β0 K0 → r.params.size = ar → (∀ k, k < n → YieldAt P l r (HH 0) β0 K0 (HH k) (HH (k + 1)) (xs k)) → WC P C fn.ntmps c ⟨env0 (.v (.func (.yield l) #[] #[]) :: cs), HH 0⟩ (endM P fn (HH 0) fun o H' => (∃ d, o = .ret d) ∧ H' = HH n)) : Iter P f cs ar HH n xs := by
  intro l r K0 K β w vs hy har hK hKl hw hl hv ho
  have hh := h (given K β (HH 0) w) l r β K0 (inLoop_given hw hK hKl) har hy
  refine calls_fin hf hb rfl (hw.kB rfl) (hw.kB rfl) (hh K β _ w (enters (by simpa using hn) hw (by simpa using hl) hv (fun d hd => by rcases List.mem_cons.1 hd with rfl | hd; exact .v _; exact ho d hd))) fun e a' w' K' β' s' x hX hs' hdf hx hq => ?_
  have kept : ∀ {n : Nat} {H' : Heap}, Kept (HH 0) n s' H' → Ext (given K β (HH 0) w) K β (HH 0) K' β' H' ∧ WS (given K β (HH 0) w) K' β' H' w' := fun {n H'} hk => by
    obtain ⟨he, hn', hok⟩ := hk
    exact ⟨⟨hX.kx, hX.ag, he ▸ hX.le.take hn'⟩, he ▸ wsTake hs'.ws n (by rw [he]; exact hok.at) (hs'.ws.hle.take hn')⟩
  have fin : (∃ m H', Kept (HH 0) m s' H' ∧ EndsM P fn (fun d => (∃ d', DOut.ret d = .ret d') ∧ H' = HH n) H' s') → a'.defers = [] ∧ ∃ v, (results fn a'.tmps).run P w' = .ok v w' ∧ Post K β (HH 0) w (fun o H' => (∃ d, o = .ret d) ∧ H' = HH n) (.returned v) w' := by
    rintro ⟨m, H', hk, hE⟩
    obtain ⟨v, d, hr, hd, hz, hQ⟩ := hE _ _ K' β' a' w' hs'
    obtain ⟨k1, k2⟩ := kept hk
    exact ⟨hdf, v, hr, v, d, K', β', H', k1, k2, hd, hz, .inl ⟨rfl, hQ⟩⟩
  cases e <;> cases x <;> first
    | exact fin hq
    | exact hx.elim
    | exact hq.elim
    | (obtain ⟨n, H', hk, hz, ⟨d, hQ⟩, _⟩ := hq
       cases hQ)
theorem Marks.fresh {B n : Nat} {K : Mem} (hK : ∀ b c, K b = some c → b < n) : ∀ {ds : List Deferred}, Marks B K ds → ∀ d ∈ ds, d.target ≠ .collected n
  | [], _, d, hd => by cases hd
  | x :: ds, ⟨⟨r, h1, h2, _, _⟩, h⟩, d, hd => by
    rcases List.mem_cons.1 hd with rfl | hd
    · intro e
      rw [h1] at e
      cases e
      exact absurd (hK _ _ h2) (Nat.lt_irrefl _)
    · exact h.fresh hK d hd
/-- The statement that ranges over a function: its rounds run off their ends. -/
theorem WC.rangeFunc {P : Program} {C : Ctx} {N : Nat} {s : St} {Q : DX → St → Prop} {g : Operand} {ps : Array Tmp} {assign body : Code} {f : FuncId} {cs : List D} {ar : Nat} (HH : Nat → Heap) (n : Nat) (xs : Nat → List D) (hrd : C.rd = none) (hg : FnIs (ev s.env g) f cs) (hc : Callee P f) (h0 : HH 0 = s.H) (hHH : ∀ k, k ≤ n → HLe s.H (HH k)) (hmn : ∀ k, k < n → (HH k).length ≤ (HH (k + 1)).length) (har : ps.size = ar) (hps : ∀ p ∈ ps.toList, p < N)
    (hit : Iter P f cs ar HH n xs) (hb : ∀ k, k < n → ∀ C', WC P C' N assign ⟨updPs s.env ps.toList (xs k), HH k⟩ (thenQ (fun s1 => ∀ C'', WC P C'' N body s1 (bodyEnd (HH (k + 1)))) fun _ _ => False)) (hq : Q .normal ⟨s.env, HH n⟩) : WC P C N (.rangeFunc g ps assign body) s Q := by
  intro K β a w hs
  obtain ⟨us, eX, lu, du⟩ := fnD_frz hg (hs.ev g)
  have hcs : ∀ d ∈ cs, OkD s.H d := by
    rcases hg with h | ⟨_, rfl⟩
    · have := hs.evok g
      rw [h] at this
      cases this with
      | fn _ _ h => exact h
    · simp
  refine wpIn_rangeFunc fun fn _ => ?_
  let w1 := (w.alloc (.deferred (some [])))
  let r : Loop := { state := .ready, pending := none, fn, tmps := a.tmps, params := ps, assign, body, defers := w.heap.size }
  let w2 := w1.alloc (.loop r)
  have hsz : w1.heap.size = w.heap.size + 1 := by simp [w1]
  have hw1 := hs.ws.stillO (.deferred (some []))
  have hw2 := hw1.stillO (.loop r)
  let K1 := K.add w.heap.size (.deferred (some []))
  let K2 := K1.add w1.heap.size (.loop r)
  have hKl : K2 w1.heap.size = some (.loop r) := by show (if _ then _ else _) = _; rw [if_pos rfl]
  have hK1 : Mem.le K K1 := Mem.le_add hs.ws.fresh
  have hK2 : Mem.le K1 K2 := Mem.le_add hw1.fresh
  have hKd : K1 w.heap.size = some (.deferred (some [])) := by show (if _ then _ else _) = _; rw [if_pos rfl]
  have hBl : C.B ≤ w.heap.size := hs.ws.size
  refine ⟨w1.heap.size, [{ target := .collected w.heap.size, args := #[] }], w2, { target := .fn (.func f) us.toArray, args := #[.func (.yield w1.heap.size) #[] #[]] }, w2, f, (.func (.yield w1.heap.size) #[] #[] :: us).toArray, w2, ?_, ?_, fun _ _ => trivial, ?_, fun e => by simp [FW] at e, calls_FW ?_⟩
  · have := run_enterLoop_outer (P := P) (w := w) fn a.tmps ps assign body
    show (Instr.enterLoop fn a.tmps ps assign body C.rd).run P w = _
    rw [hrd, this, hsz]
  · simp [resolve, rangeCall, eX, Deferred.ofValue]; rfl
  · simp [invoke, hc.run]
  have hcall := hit w1.heap.size r K K2 β w2 (.func (.yield w1.heap.size) #[] #[] :: us) (fun k hk => ?_) har (hK1.trans hK2) hKl (by rw [h0]; exact hw2.give) (by simp [lu]) (fun j v d hv hd => ?_) (by rw [h0]; exact hcs)
  · refine hcall.mono fun e w3 ⟨v, d, K', β', H', k1, k2, k3, k4, k5⟩ => ?_
    rw [h0] at k1 k2
    rcases k5 with ⟨rfl, _, rfl⟩ | ⟨_, ⟨d', hd'⟩, _⟩
    · have j1 := Ext.up hw2 k1
      have j2 := hw2.back k2
      have hKl' : K' w1.heap.size = some (.loop r) := k1.kx.le _ _ hKl
      have hl3 := j2.holds _ _ hKl'
      refine ⟨r.pending, _, run_endLoop hl3 (by simp [r]), ?_⟩
      show AftX C N K β s.H Q .normal { a with defers := [{ target := .collected w.heap.size, args := #[] }] ++ a.defers } _
      have hkb : C.kb w1.heap.size = none := by
        cases e : C.kb w1.heap.size with
        | none => rfl
        | some c => have := hs.ws.klt (hs.ws.kle _ _ e); omega
      have hKle : Mem.le K (K'.del w1.heap.size) := fun b c hb' => by
        have := hs.ws.klt hb'
        unfold Mem.del
        rw [if_neg (by omega)]; exact k1.kx.le _ _ (hK2 _ _ (hK1 _ _ hb'))
      have hws := j2.drop hKl' (inert_loop r) (by omega) hkb (.loop { r with state := .exhausted })
      refine ⟨K'.del w1.heap.size, β', ⟨s.env, HH n⟩, .normal, ⟨⟨hKle, fun b c hb' => ?_⟩, j1.ag, hHH n (Nat.le_refl _)⟩, ⟨hws, hs.size, ⟨⟨w.heap.size, rfl, ?_, hBl, hs.defers.fresh fun b c hb' => hs.ws.klt hb'⟩, hs.defers.mono hKle⟩, fun t => (hs.rd t).mono hKle (fun _ => hs.ok t) j1.ag, fun t => (hs.ok t).mono (hHH n (Nat.le_refl _))⟩, trivial, hq⟩
      · unfold Mem.del at hb'
        by_cases e : b = w1.heap.size
        · rw [if_pos e] at hb'; cases hb'
        · rw [if_neg e] at hb'
          rcases j1.kx.new b c hb' with h1 | h1
          · have h2 : K1 b = some c := by
              have h1 : (if b = w1.heap.size then some (Obj.loop r) else K1 b) = some c := h1
              rwa [if_neg e] at h1
            by_cases e2 : b = w.heap.size
            · exact .inr (.inl (by omega))
            · have h2 : (if b = w.heap.size then some (Obj.deferred (some [])) else K b) = some c := h2
              rw [if_neg e2] at h2; exact .inl h2
          · exact .inr h1
      · unfold Mem.del
        rw [if_neg (by omega)]; exact k1.kx.le _ _ (hK2 _ _ hKd)
    · cases hd'
  · intro K3 β3 w3 vs hK3 hKl3 hag hw3 hl hv ho
    exact round_of hs ⟨rfl, rfl, rfl⟩ (hHH k (Nat.le_of_lt hk)) (hmn k hk) hps hK3 hKl3 (by rw [← h0]; exact hag) hw3 hl hv ho (hb k hk)
  · rcases j with _ | j
    · simp at hv hd; subst hv hd; exact .v _ _
    · exact (du j v d (by simpa using hv) (by simpa using hd)).mono (hK1.trans hK2) (fun _ => hcs d (List.mem_of_getElem? (by simpa using hd))) (Agr.refl _ _)
end Go.DL
namespace Go.DL
open Go.RowKit

theorem WS.redo {C : Ctx} {K : Mem} {β : Nat → Nat → BT} {H : Heap} {w : World} (h : WS C K β H w) {id : Nat} {b b' : Blk} (hb : H[id]? = some (some b)) (hv : b'.ver = b.ver) (hR : BlkR K β (β id b.ver) b' (w.heap[(β id b.ver).blk]?)) (ho : ∀ c ∈ b'.cs, OkD H c) : WS C K β (H.set id (some b')) w := by
  have hid : id < H.length := (List.getElem?_eq_some_iff.1 hb).1
  have hle : HLe H (H.set id (some b')) := HLe.set hb (by rw [hv]; exact Nat.le_refl _)
  have split : ∀ {i : Nat} {x : Blk}, (H.set id (some b'))[i]? = some (some x) → (i = id ∧ x = b') ∨ (i ≠ id ∧ H[i]? = some (some x)) := by
    intro i x hx
    rw [List.getElem?_set] at hx
    by_cases e : id = i
    · rw [if_pos e, if_pos hid] at hx; simp at hx; exact .inl ⟨e.symm, hx.symm⟩
    · rw [if_neg e] at hx; exact .inr ⟨Ne.symm e, hx⟩
  refine ⟨h.holds, fun i x hx => ?_, fun i x hx c hc => ?_, fun i j x y hx hy hri hrj he => ?_, fun i x hx hr => ?_, fun i x hx hr => ?_, h.size, h.below, h.agr, h.hle.trans hle, h.kle⟩
  · rcases split hx with ⟨rfl, rfl⟩ | ⟨hi, hx⟩
    · rw [hv]; exact hR
    · exact h.blk i x hx
  · rcases split hx with ⟨rfl, rfl⟩ | ⟨hi, hx⟩
    · exact (ho c hc).mono hle
    · exact (h.ok i x hx c hc).mono hle
  · rcases split hx with ⟨rfl, rfl⟩ | ⟨hi, hx1⟩ <;> rcases split hy with ⟨hj, rfl⟩ | ⟨hj, hy1⟩
    · exact hj.symm
    · rw [hv] at hri he; exact h.inj _ j b y hb hy1 hri hrj he
    · subst hj; rw [hv] at hrj he; exact h.inj i _ x b hx1 hb hri hrj he
    · exact h.inj i j x y hx1 hy1 hri hrj he
  · rcases split hx with ⟨rfl, rfl⟩ | ⟨hi, hx⟩
    · rw [hv] at hr ⊢; exact h.apart _ b hb hr
    · exact h.apart i x hx hr
  · rcases split hx with ⟨rfl, rfl⟩ | ⟨hi, hx⟩
    · rw [hv] at hr ⊢; exact h.base _ b hb hr
    · exact h.base i x hx hr
theorem BlkR.nilCell {K : Mem} {β : Nat → Nat → BT} {t : BT} {b : Blk} {o : Option Obj} (h : BlkR K β t b o) {off id sz : Nat} (hc : b.cs[off]? = some (.v (.slice none 0 0))) (hn : (β id 0).st = .none) : BlkR K β t { b with cs := b.cs.set off (.own id 0 0 0 sz) } o := by
  unfold BlkR at *
  cases hs : t.st with
  | none => rw [hs] at h; have h : b.cs = [] := h; rw [h] at hc; cases hc
  | cells =>
    rw [hs] at h
    obtain ⟨us, rest, e, hl, ht, hg, hd⟩ := h
    refine ⟨us, rest, e, by simpa using hl, ht, hg, fun j u d hu hd' => ?_⟩
    simp only at hd'
    rw [List.getElem?_set] at hd'
    by_cases e2 : off = j
    · subst e2
      rw [if_pos rfl] at hd'
      split at hd'
      · cases hd'
        rw [(hd off u _ hu hc).v_inv]; exact .own0 _ _ _ hn
      · cases hd'
    · rw [if_neg e2] at hd'; exact hd j u d hu hd'
  | map =>
    rw [hs] at h
    obtain ⟨es, ck, e, hE⟩ := h
    have hlt : off < b.cs.length := (List.getElem?_eq_some_iff.1 hc).1
    have hes : off < es.size := by rw [hE.len]; exact hlt
    obtain ⟨dv, e3, _⟩ := hE.rd off es[off] _ (Array.getElem?_eq_getElem hes) hc
    cases e3
/-- A cell that holds a nil slice: from here on an own row, nil as_ yet, the newest block. -/
theorem WC.nilCell {P : Program} {C : Ctx} {N : Nat} {s : St} {Q : DX → St → Prop} {c : Code} (id off : Nat) (b : Blk) (e : TypeId) (sz : Nat) (hb : s.H[id]? = some (some b)) (hc : b.cs[off]? = some (.v (.slice none 0 0))) (h : WC P C N c ⟨s.env, (s.H ++ [some (⟨[], e, true, 0⟩ : Blk)]).set id (some { b with cs := b.cs.set off (.own s.H.length 0 0 0 sz) })⟩ Q) : WC P C N c s Q := by
  intro K β a w hs
  have hid : id < s.H.length := (List.getElem?_eq_some_iff.1 hb).1
  have hb' : (s.H ++ [some (⟨[], e, true, 0⟩ : Blk)])[id]? = some (some b) := by rw [List.getElem?_append_left hid]; exact hb
  have h1 := hs.ws.newNil e
  have hβ : ∀ v, addB β s.H.length 0 ⟨0, 0, .none⟩ id v = β id v := fun v => addB_ne (.inl (by omega))
  have hle1 : HLe s.H (s.H ++ [some (⟨[], e, true, 0⟩ : Blk)]) := HLe.app _ _
  have hle2 : HLe (s.H ++ [some (⟨[], e, true, 0⟩ : Blk)]) ((s.H ++ [some (⟨[], e, true, 0⟩ : Blk)]).set id (some { b with cs := b.cs.set off (.own s.H.length 0 0 0 sz) })) := HLe.set hb' (Nat.le_refl _)
  have h2 := h1.redo (b' := { b with cs := b.cs.set off (.own s.H.length 0 0 0 sz) }) hb' rfl ((h1.blk id b hb').nilCell hc (by rw [addB_at])) fun c hc' => by
    rcases List.mem_or_eq_of_mem_set hc' with h3 | rfl
    · exact h1.ok id b hb' c h3
    · refine .own _ _ _ _ _ ?_
      unfold okV
      rw [List.getElem?_append_right (Nat.le_refl _), Nat.sub_self]
      exact Nat.le_refl _
  have hs' : SR C N K (addB β s.H.length 0 ⟨0, 0, .none⟩) ⟨s.env, (s.H ++ [some (⟨[], e, true, 0⟩ : Blk)]).set id (some { b with cs := b.cs.set off (.own s.H.length 0 0 0 sz) })⟩ a w :=
    ⟨h2, hs.size, hs.defers, fun t => (hs.rd t).mono (Mem.le.refl K) (fun _ => hs.ok t) addB_agr, fun t => (hs.ok t).mono (hle1.trans hle2)⟩
  exact wpIn_mono (h K _ a w hs') fun e a' w' hA => hA.mono ⟨KX.refl _ _, addB_agr, hle1.trans hle2⟩ fun _ _ h => h
theorem one_ok {H : Heap} {d : D} (h : OkD H d) : ∀ c ∈ [d], OkD H c := fun c hc => by
  rw [List.mem_singleton] at hc
  subst hc; exact h
end Go.DL
namespace Go.Proofs.Ytpdjcfhmdeeikaa
open Go.RowKit Go.DL

def wrapI (a b : Int) : Int := sgn ((a - b) % 18446744073709551616).toNat
def encP (p : Nat × Int) : List UInt8 := encB p.1 ++ encB (zigN p.2)
/-- Pairs that are pairs. -/
def okP (p : Nat × Int) : Prop := p.1 ≤ 18446744073709551615 ∧ -9223372036854775808 ≤ p.2 ∧ p.2 ≤ 9223372036854775807
theorem encP_len {p : Nat × Int} (h : okP p) : (encP p).length ≤ 20 := by
  have h1 := encB_len10 h.1
  have h2 := encB_len10 (zig_le h.2.1 h.2.2)
  unfold encP
  rw [List.length_append]; omega
abbrev p0 : Nat × Int := (0, 0)
def bytesP (l : List (Nat × Int)) (k : Nat) : List UInt8 := (l.take k).flatMap encP
theorem bytesP_step {l : List (Nat × Int)} {k : Nat} (h : k < l.length) : bytesP l (k + 1) = bytesP l k ++ encP (l.getD k p0) := by
  unfold bytesP
  rw [List.take_succ_eq_append_getElem h, List.flatMap_append]; simp [List.getD, h]
theorem bytesP_len {l : List (Nat × Int)} (hl : ∀ p ∈ l, okP p) (k : Nat) : (bytesP l k).length ≤ 20 * l.length := by
  unfold bytesP
  have : ∀ m : List (Nat × Int), (∀ p ∈ m, okP p) → (m.flatMap encP).length ≤ 20 * m.length := by
    intro m hm
    induction m with
    | nil => simp
    | cons p m ih =>
      have h1 := encP_len (hm p (by simp))
      have h2 := ih fun q hq => hm q (by simp [hq])
      simp only [List.flatMap_cons, List.length_append, List.length_cons] at *; omega
  have h1 := this (l.take k) fun p hp => hl p (List.mem_of_mem_take hp)
  have h2 : (l.take k).length ≤ l.length := by rw [List.length_take]; omega
  omega
/-- The blocks behind k pairs: the cell of the row, the row. -/
abbrev putH (l : List (Nat × Int)) (k : Nat) : Heap := [some ⟨[ow 1 (bytesP l k).length 1], 24, false, 0⟩, tb 5 (bytesP l k).length (bytesD (bytesP l k))]
theorem putH_eq {l : List (Nat × Int)} {k n : Nat} {cs : List D} (h1 : n = (bytesP l k).length) (h2 : cs = bytesD (bytesP l k)) : ([some ⟨[ow 1 n 1], 24, false, 0⟩, tb 5 n cs] : Heap) = putH l k := by subst h1 h2; rfl
theorem putH_ok (l : List (Nat × Int)) (k : Nat) : OkH (putH l k) (putH l k) := ⟨fun c hc => by
    have hc : c ∈ [ow 1 (bytesP l k).length 1] := hc
    rw [List.mem_singleton] at hc
    subst hc
    exact .own _ _ _ _ _ (Nat.le_refl (bytesP l k).length), okp (pu_bytes _), trivial⟩
set_option maxHeartbeats 4000000 in
theorem iput_c (l : List Int) (prs : List (Nat × Int)) (hp : ∀ p ∈ prs, okP p) (hpl : prs.length ≤ 1099511627776) (hruns : Fun Try.prog 63 [rdI l] (· = .fn (.func 70) [.adr [rdI l]])) (hit : Iter Try.prog 70 [.adr [rdI l]] 2 (putH prs) prs.length (fun k => [N64 (prs.getD k p0).1, I64 (prs.getD k p0).2])) : Fun Try.prog 52 [rdI l] (· = rdB (bytesP prs prs.length)) := by
  refine Fun.ofR Try.func52 rfl (Nat.le_of_ble_eq_true rfl) fun C hrd => ?_
  refine WC.seq fun Fh1_ h1_ => ?_
  refine WC.region ?_
  refine RG.op _ _ rfl rfl (o_assign (.v _) rfl) ?_
  refine RG.nil (h1_ _ ?_)
  refine WC.seq fun Fh2_ h2_ => ?_
  refine WC.region ?_
  refine RG.op _ _ rfl rfl (o_alloc (z_of Ty.inf24) rfl) ?_
  refine RG.nil (h2_ _ ?_)
  refine WC.seq fun Fh3_ h3_ => ?_
  refine WC.seq fun Fh4_ h4_ => ?_
  refine WC.nilCell 0 0 _ 5 1 rfl rfl ?_
  refine WC.region ?_
  refine RG.op _ _ rfl rfl (o_move (.rd _ _) rfl) ?_
  refine RG.op _ _ rfl rfl (o_call Ty.cal63 (hruns) ⟨.inl rfl, trivial⟩ (by exact pua rfl)) ?_
  refine RG.nil (h4_ _ ?_)
  refine WC.block ?_
  refine WC.rangeFunc (f := 70) (cs := [.adr [rdI l]]) (ar := 2) (fun (k : Nat) => putH prs k) prs.length (fun (k : Nat) => [N64 (prs.getD k p0).1, I64 (prs.getD k p0).2]) hrd (.inl rfl) Ty.cal70 (rfl) (fun k _ => VLe.le ⟨Nat.le_refl _, Nat.zero_le _, trivial⟩) (fun _ _ => Nat.le_refl 2) rfl (by decide) (hit) (fun k hk C_ => ?_) ?_
  ·
    have hlk := bytesP_len hp k
    have hok := hp _ (List.getElem_mem hk)
    have eg : prs.getD k p0 = prs[k] := by simp [List.getD, hk]
    have hc1 : (prs.getD k p0).1 ≤ 18446744073709551615 := by rw [eg]; exact hok.1
    have hc2 : -9223372036854775808 ≤ (prs.getD k p0).2 := by rw [eg]; exact hok.2.1
    have hc3 : (prs.getD k p0).2 ≤ 9223372036854775807 := by rw [eg]; exact hok.2.2
    have hc4 := encB_len10 hc1
    have hc5 := zig_le hc2 hc3
    have hc6 := encB_len10 hc5
    refine WC.seq fun Fh5_ h5_ => ?_
    refine WC.region ?_
    refine RG.op _ _ rfl rfl (o_assign (.v _) rfl) ?_
    refine RG.nil (h5_ _ ?_)
    refine WC.region ?_
    refine RG.op _ _ rfl rfl (o_assign (.v _) rfl) ?_
    refine RG.nil (fun C2_ => ?_)
    refine WC.block ?_
    refine WC.seq fun Fh6_ h6_ => ?_
    refine WC.drawn2 (by kernel_rfl) ?_
    refine PG.opm _ _ rfl rfl rfl (o_load_ptr (d := ow 1 (bytesP prs k).length 1) rfl Try.underlying24 rfl rfl rfl rfl) ?_
    refine PG.op _ rfl rfl rfl (fun _ _ => o_move (.v _) rfl) ?_
    refine PG.op _ rfl rfl rfl (fun _ _ => o_call Ty.cal54 (vput_c [] _ (by first | omega | exact ubyte _ | (simp only [LS] <;> omega)) (by first | omega | exact ubyte _ | (simp only [LS] <;> omega))) ⟨.inr ⟨rfl, rfl⟩, .inl rfl, trivial⟩ (by exact pua rfl)) ?_
    refine PG.opm _ _ rfl rfl rfl (o_appT (Elem.of Try.underlying24 Ty.inf5 rfl (by decide)) rfl rfl rfl (by first | omega | exact ubyte _ | (simp only [LS] <;> omega)) (by first | omega | exact ubyte _ | (simp only [LS] <;> omega)) (by repeat (first | exact bytesD_one _ | exact one_nil | exact one_map (fun _ => rfl) _ | exact one_vals _ | refine one_app ?_ ?_ | refine one_cons rfl ?_)) (by first | omega | exact ubyte _ | (simp only [LS] <;> omega)) (by first | omega | exact ubyte _ | (simp only [LS] <;> omega))) ?_
    refine PG.opm _ _ rfl rfl rfl (o_store (d := (.own _ _ _ _ _)) rfl rfl rfl rfl (sz_of Ty.inf24) (Nat.le_of_ble_eq_true rfl) rfl) ?_
    refine PG.nil ⟨by kernel_rfl, trivial, (h6_ _ ?_)⟩
    refine WC.drawn2 (by kernel_rfl) ?_
    refine PG.opm _ _ rfl rfl rfl (o_load_ptr (d := ow 1 ((bytesP prs k).length + (encB (prs.getD k p0).1).length) 1) rfl Try.underlying24 rfl rfl rfl rfl) ?_
    refine PG.op _ rfl rfl rfl (fun _ _ => o_move (.v _) rfl) ?_
    refine PG.op _ rfl rfl rfl (fun _ _ => o_call Ty.cal64 (vzig_c _ (by first | omega | exact ubyte _ | (simp only [LS] <;> omega)) (by first | omega | exact ubyte _ | (simp only [LS] <;> omega))) ⟨.inl rfl, trivial⟩ (by exact pua rfl)) ?_
    refine PG.op _ rfl rfl rfl (fun _ _ => o_call Ty.cal54 (vput_c [] _ (by first | omega | exact ubyte _ | (simp only [LS] <;> omega)) (by first | omega | exact ubyte _ | (simp only [LS] <;> omega))) ⟨.inr ⟨rfl, rfl⟩, .inl rfl, trivial⟩ (by exact pua rfl)) ?_
    refine PG.opm _ _ rfl rfl rfl (o_appT (Elem.of Try.underlying24 Ty.inf5 rfl (by decide)) rfl rfl rfl (by first | omega | exact ubyte _ | (simp only [LS] <;> omega)) (by first | omega | exact ubyte _ | (simp only [LS] <;> omega)) (by repeat (first | exact bytesD_one _ | exact one_nil | exact one_map (fun _ => rfl) _ | exact one_vals _ | refine one_app ?_ ?_ | refine one_cons rfl ?_)) (by first | omega | exact ubyte _ | (simp only [LS] <;> omega)) (by first | omega | exact ubyte _ | (simp only [LS] <;> omega))) ?_
    refine PG.opm _ _ rfl rfl rfl (o_store (d := (.own _ _ _ _ _)) rfl rfl rfl rfl (sz_of Ty.inf24) (Nat.le_of_ble_eq_true rfl) rfl) ?_
    refine PG.nil ⟨by kernel_rfl, trivial, ⟨rfl, ?_, ?_⟩⟩
    · exact putH_eq (by rw [bytesP_step hk]; simp [encP]; omega) (by rw [bytesP_step hk]; simp [encP, bytesD_app])
    · exact (putH_ok _ _)
  ·
    skip
    refine (h3_ _ ?_)
    refine WC.seq fun Fh7_ h7_ => ?_
    refine WC.region ?_
    refine RG.op _ _ rfl rfl (o_load_ptr (d := ow 1 (bytesP prs prs.length).length 1) rfl Try.underlying24 rfl rfl rfl rfl) ?_
    refine RG.op _ _ rfl rfl (o_assign (.own _ _ _ _ _) rfl) ?_
    refine RG.nil (h7_ _ ?_)
    refine WC.ret ?_
    exact Ends.r1 rfl (.tmp _ (.own _ _ _ _ _) rfl) (.tb rfl (by repeat (first | exact pu_bytes _ | exact pu_nil | exact pu_vs rfl | exact pu_map (fun _ => .v _) _ | exact pu_vals _ | refine pu_app ?_ ?_ | refine pu_cons (by exact pu_of rfl) ?_))) (rfl)
end Go.Proofs.Ytpdjcfhmdeeikaa
namespace Go.Proofs.Ytpdjcfhmdeeikaa
open Go.RowKit Go.DL

set_option maxHeartbeats 4000000 in
theorem wrap_c (a b : Int) : Fun Try.prog 71 [I64 a, I64 b] (· = I64 (wrapI a b)) := by
  refine Fun.of Try.func71 rfl (Nat.le_of_ble_eq_true rfl) fun C => ?_
  refine WC.seq fun Fh1_ h1_ => ?_
  refine WC.region ?_
  refine RG.op _ _ rfl rfl (o_assign (.v _) rfl) ?_
  refine RG.nil (h1_ _ ?_)
  refine WC.seq fun Fh2_ h2_ => ?_
  refine WC.region ?_
  refine RG.op _ _ rfl rfl (o_move (.v _) rfl) ?_
  refine RG.op _ _ rfl rfl (o_i64toU rfl Try.underlying2 Try.underlying69) ?_
  refine RG.op _ _ rfl rfl (o_move (.v _) rfl) ?_
  refine RG.op _ _ rfl rfl (o_i64toU rfl Try.underlying2 Try.underlying69) ?_
  refine RG.op _ _ rfl rfl (o_subU rfl rfl (by first | omega | exact ubyte _ | (simp only [LS] <;> omega))) ?_
  refine RG.op _ _ rfl rfl (o_UtoI64 rfl (by first | omega | exact ubyte _ | (simp only [LS] <;> omega)) Try.underlying69 Try.underlying2) ?_
  refine RG.op _ _ rfl rfl (o_assign (.v _) rfl) ?_
  refine RG.nil (h2_ _ ?_)
  refine WC.ret ?_
  exact Ends.r1 rfl (.tmp _ (.v _) rfl) (.v _) (congrArg I64 (by unfold wrapI; exact congrArg sgn (by omega)))
/-- The runs of changes: each change, and how often it comes one behind the other. -/
def runsF : List Int → Int → Int → Nat → Int → List (Nat × Int)
  | [], _, _, n, c => if 0 < n then [(n, c)] else []
  | v :: l, la, st, n, c => if 0 < n ∧ ¬ wrapI (wrapI v la) st = c then (n, c) :: runsF l v (wrapI v la) 1 (wrapI (wrapI v la) st) else runsF l v (wrapI v la) (n + 1) (wrapI (wrapI v la) st)
def runsM (l : List Int) : List (Nat × Int) := runsF l 0 0 0 0
theorem runsF_yield {l : List Int} {i n : Nat} {la st c : Int} (h : i < l.length) (h1 : 0 < n) (h2 : ¬ wrapI (wrapI l[i] la) st = c) : runsF (l.drop i) la st n c = (n, c) :: runsF (l.drop (i + 1)) l[i] (wrapI l[i] la) 1 (wrapI (wrapI l[i] la) st) := by
  rw [List.drop_eq_getElem_cons h, runsF, if_pos ⟨h1, h2⟩]
theorem runsF_on {l : List Int} {i n : Nat} {la st c : Int} (h : i < l.length) (h1 : ¬ (0 < n ∧ ¬ wrapI (wrapI l[i] la) st = c)) : runsF (l.drop i) la st n c = runsF (l.drop (i + 1)) l[i] (wrapI l[i] la) (n + 1) (wrapI (wrapI l[i] la) st) := by
  rw [List.drop_eq_getElem_cons h, runsF, if_neg h1]
theorem drop_head {l : List (Nat × Int)} {k : Nat} {x : Nat × Int} {r : List (Nat × Int)} (h : l.drop k = x :: r) : k < l.length ∧ l.getD k p0 = x ∧ l.drop (k + 1) = r := by
  have hk : k < l.length := by
    rcases Nat.lt_or_ge k l.length with hk | hk
    · exact hk
    · rw [List.drop_eq_nil_of_le hk] at h; cases h
  rw [List.drop_eq_getElem_cons hk] at h
  have h1 := (List.cons.inj h).1
  have h2 := (List.cons.inj h).2
  exact ⟨hk, by simp [List.getD, hk, h1], h2⟩
theorem runsF_last {l : List Int} {i n : Nat} {la st c : Int} (h : l.drop i = []) (hn : 0 < n) : runsF (l.drop i) la st n c = [(n, c)] := by rw [h, runsF, if_pos hn]
theorem runsF_none {l : List Int} {i n : Nat} {la st c : Int} (h : l.drop i = []) (hn : ¬ 0 < n) : runsF (l.drop i) la st n c = [] := by rw [h, runsF, if_neg hn]
theorem putH_all {l : List (Nat × Int)} {k : Nat} (h : l.drop k = []) : putH l k = putH l l.length := by
  have hk : l.length ≤ k := by
    rcases Nat.lt_or_ge k l.length with hk | hk
    · rw [List.drop_eq_getElem_cons hk] at h; cases h
    · exact hk
  have : bytesP l k = bytesP l l.length := by unfold bytesP; rw [List.take_of_length_le hk, List.take_length]
  unfold putH; rw [this]
set_option maxHeartbeats 4000000 in
theorem runs1_c (l : List Int) (hl : l.length ≤ 1099511627776) (prs : List (Nat × Int)) (hprs : prs = runsM l) : Iter Try.prog 70 [.adr [rdI l]] 2 (putH prs) prs.length (fun k => [N64 (prs.getD k p0).1, I64 (prs.getD k p0).2]) := by
  refine Iter.of Try.func70 rfl (Nat.le_of_ble_eq_true rfl) fun C l_ r_ β0_ K0_ hC_ har_ hy_ => ?_
  refine WC.seq fun Fh1_ h1_ => ?_
  refine WC.region ?_
  refine RG.op _ _ rfl rfl (o_assign (N64 0) rfl) ?_
  refine RG.op _ _ rfl rfl (o_assign (.v _) rfl) ?_
  refine RG.nil (h1_ _ ?_)
  refine WC.seq fun Fh2_ h2_ => ?_
  refine WC.region ?_
  refine RG.op _ _ rfl rfl (o_assign (.v _) rfl) ?_
  refine RG.op _ _ rfl rfl (o_assign (.v _) rfl) ?_
  refine RG.nil (h2_ _ ?_)
  refine WC.seq fun Fh3_ h3_ => ?_
  refine WC.seq fun Fh4_ h4_ => ?_
  refine WC.region ?_
  refine RG.op _ _ rfl rfl (o_load_adr rfl Try.underlying58 rfl rfl) ?_
  refine RG.op _ _ rfl rfl (o_len_rd rfl Try.underlying58) ?_
  refine RG.op _ _ rfl rfl (o_move (.v _) rfl) ?_
  refine RG.nil (h4_ _ ?_)
  refine WC.block ?_
  refine WC.loopU [3, 4, 5, 6, 8, 9, 10, 13, 14, 15, 16, 17, 18, 19, 20, 21, 22, 23, 24, 25, 26, 27, 28, 29, 30, 31, 32, 33, 34, 35, 36, 37, 38, 39, 40] (fun (p : Nat × Nat × Nat × Int × Int × Int) => [(13, I64 ((p.1 : Nat) : Int)), (3, N64 p.2.2.1), (4, I64 p.2.2.2.1), (5, I64 p.2.2.2.2.1), (6, I64 p.2.2.2.2.2)]) (fun (p : Nat × Nat × Nat × Int × Int × Int) => [(0, some ⟨[ow 1 (bytesP prs p.2.1).length 1], 24, false, 0⟩), (1, tb 5 (bytesP prs p.2.1).length (bytesD (bytesP prs p.2.1)))]) (fun (p : Nat × Nat × Nat × Int × Int × Int) => p.1 ≤ l.length ∧ p.2.2.1 ≤ p.1 ∧ prs.drop p.2.1 = runsF (l.drop p.1) p.2.2.2.2.1 p.2.2.2.2.2 p.2.2.1 p.2.2.2.1) (fun (p : Nat × Nat × Nat × Int × Int × Int) => l.length - p.1) (0, 0, 0, 0, 0, 0) ⟨Nat.zero_le _, Nat.le_refl _, by rw [hprs]; rfl⟩ ?lpa5_ ?lpb6_
  case lpa5_ =>
    exact .mk' ⟨⟨rfl, .v _⟩, ⟨rfl, .v _⟩, ⟨rfl, .v _⟩, ⟨rfl, .v _⟩, ⟨rfl, .v _⟩, trivial⟩ (same_refl _ _) (rfl) (by repeat (first | exact trivial | refine And.intro (Nat.le_refl _) ?_ | refine And.intro trivial ?_ | refine And.intro (by show _ ≤ _; (first | omega | (simp only [LS] <;> omega))) ?_)) (by repeat (first | exact trivial | refine And.intro (one_ok (.own _ _ _ _ _ (Nat.le_refl _))) ?_ | refine And.intro (okp (by repeat (first | exact pu_bytes _ | exact pu_nil | exact pu_vs rfl | exact pu_map (fun _ => .v _) _ | exact pu_vals _ | refine pu_app ?_ ?_ | refine pu_cons (by exact pu_of rfl) ?_))) ?_))
  case lpb6_ =>
    rintro p hI
    have h00 : (bytesP prs 0).length = 0 := rfl
    have hk1 := hI.1
    have hk2 := hI.2.1
    have hk3 := hI.2.2
    refine WC.seq fun Fh7_ h7_ => ?_
    refine WC.region ?_
    refine RG.op _ _ rfl rfl (o_ltI rfl rfl) ?_
    refine RG.nil (h7_ _ ?_)
    refine WC.seq fun Fh8_ h8_ => ?_
    refine WC.cond _ rfl (fun c3 => ?_) (fun c3 => ?_)
    ·
      have p3 := c3
      try simp only [CN] at p3
      have hlt : p.1 < l.length := by omega
      refine WC.skip (h8_ _ ?_)
      refine WC.seq fun Fh9_ h9_ => ?_
      refine WC.block ?_
      refine WC.seq fun Fh10_ h10_ => ?_
      refine WC.region ?_
      refine RG.op _ _ rfl rfl (o_ixn_M p.1 rfl rfl Try.underlying58 (sz_of Ty.inf2) (by first | omega | exact ubyte _ | (simp only [LS] <;> omega)) (by first | omega | exact ubyte _ | (simp only [LS] <;> omega))) ?_
      refine RG.op _ _ rfl rfl (o_load_adr rfl Try.underlying2 rfl rfl) ?_
      refine RG.op _ _ rfl rfl (o_assign (.v _) rfl) ?_
      refine RG.nil (h10_ _ ?_)
      refine WC.seq fun Fh11_ h11_ => ?_
      refine WC.region ?_
      refine RG.op _ _ rfl rfl (o_move (.v _) rfl) ?_
      refine RG.op _ _ rfl rfl (o_move (.v _) rfl) ?_
      refine RG.op _ _ rfl rfl (o_call Ty.cal71 (wrap_c _ _) ⟨.inl rfl, .inl rfl, trivial⟩ (by exact pua rfl)) ?_
      refine RG.op _ _ rfl rfl (o_assign (.v _) rfl) ?_
      refine RG.nil (h11_ _ ?_)
      refine WC.seq fun Fh12_ h12_ => ?_
      refine WC.region ?_
      refine RG.op _ _ rfl rfl (o_move (.v _) rfl) ?_
      refine RG.op _ _ rfl rfl (o_move (.v _) rfl) ?_
      refine RG.op _ _ rfl rfl (o_call Ty.cal71 (wrap_c _ _) ⟨.inl rfl, .inl rfl, trivial⟩ (by exact pua rfl)) ?_
      refine RG.op _ _ rfl rfl (o_assign (.v _) rfl) ?_
      refine RG.nil (h12_ _ ?_)
      refine WC.seq fun Fh13_ h13_ => ?_
      refine WC.region ?_
      refine RG.op _ _ rfl rfl (o_move (.v _) rfl) ?_
      refine RG.op _ _ rfl rfl (o_move (.v _) rfl) ?_
      refine RG.op _ _ rfl rfl (o_assign (.v _) rfl) ?_
      refine RG.op _ _ rfl rfl (o_assign (.v _) rfl) ?_
      refine RG.nil (h13_ _ ?_)
      refine WC.seq fun Fh14_ h14_ => ?_
      refine WC.seq fun Fh15_ h15_ => ?_
      refine WC.region ?_
      refine RG.op _ _ rfl rfl (o_move (.v _) rfl) ?_
      refine RG.op _ _ rfl rfl (o_gtI rfl rfl) ?_
      refine RG.op _ _ rfl rfl (o_move (.v _) rfl) ?_
      refine RG.opg1 _ _ _ _ _ rfl rfl rfl rfl rfl (fun hb => o_move (.v _) rfl) ?_
      refine RG.opg1 _ _ _ _ _ rfl rfl rfl rfl rfl (fun hb => o_move (.v _) rfl) ?_
      refine RG.opg1 _ _ _ _ _ rfl rfl rfl rfl rfl (fun hb => o_neI (gdT hb) (gdT hb)) ?_
      refine RG.op _ _ rfl rfl (o_and _ _ rfl rfl rfl) ?_
      refine RG.nil (h15_ _ ?_)
      refine WC.cond _ rfl (fun c8 => ?_) (fun c8 => ?_)
      ·
        have p8 := c8
        try simp only [CN] at p8
        have hd := drop_head (hk3.trans (runsF_yield hlt (by omega) p8.2))
        have hyk := hy_ p.2.1 hd.1
        rw [hd.2.1] at hyk
        refine WC.seq fun Fh16_ h16_ => ?_
        refine WC.seq fun Fh17_ h17_ => ?_
        refine WC.region ?_
        refine RG.op _ _ rfl rfl (o_move (.v _) rfl) ?_
        refine RG.op _ _ rfl rfl (o_move (.v _) rfl) ?_
        refine RG.op _ _ rfl rfl (o_move (.v _) rfl) ?_
        refine RG.opM _ _ rfl rfl (x_yieldF (ds := [N64 p.2.2.1, I64 p.2.2.2.1]) (putH prs p.2.1) (putH prs (p.2.1 + 1)) [] rfl hC_ (by rw [har_]; rfl) ⟨.inl rfl, .inl rfl, trivial⟩ (by exact pua rfl) rfl rfl (putH_ok _ _) (putH_ok _ _) hyk) ?_
        refine RG.op _ _ rfl rfl (o_not rfl) ?_
        refine RG.nil (h17_ _ ?_)
        refine WC.cond _ rfl (fun c9 => ?_) (fun c9 => ?_)
        ·
          have p9 := c9
          try simp only [CN] at p9
          cases c9
        ·
          have p9 := c9
          try simp only [CN] at p9
          refine WC.skip (h16_ _ ?_)
          refine WC.region ?_
          refine RG.op _ _ rfl rfl (o_assign (N64 0) rfl) ?_
          refine RG.nil (h14_ _ ?_)
          refine WC.region ?_
          refine RG.op _ _ rfl rfl (o_move (N64 0) rfl) ?_
          refine RG.op _ _ rfl rfl (o_addU (a := 0) (b := 1) rfl rfl) ?_
          refine RG.op _ _ rfl rfl (o_move (.v _) rfl) ?_
          refine RG.op _ _ rfl rfl (o_assign (.v _) rfl) ?_
          refine RG.op _ _ rfl rfl (o_assign (.v _) rfl) ?_
          refine RG.nil (h9_ _ ?_)
          refine WC.region ?_
          refine RG.op _ _ rfl rfl (o_add rfl rfl (by first | omega | exact ubyte _ | (simp only [LS] <;> omega)) (by first | omega | exact ubyte _ | (simp only [LS] <;> omega))) ?_
          refine RG.op _ _ rfl rfl (o_move (.v _) rfl) ?_
          refine RG.nil (Exists.intro ((p.1 + 1, p.2.1 + 1, 1, wrapI (wrapI (l[p.1]'hlt) p.2.2.2.2.1) p.2.2.2.2.2, l[p.1]'hlt, wrapI (l[p.1]'hlt) p.2.2.2.2.1)) ⟨⟨by show p.1 + 1 ≤ _; omega, by show 1 ≤ p.1 + 1; omega, hd.2.2⟩, (by show _ < _; omega), ?_⟩)
          exact .mk' ⟨⟨rfl, .v _⟩, ⟨rfl, .v _⟩, ⟨rfl, .v _⟩, ⟨rfl, .v _⟩, ⟨rfl, .v _⟩, trivial⟩ (by repeat (first | with_reducible exact same_refl _ _ | with_reducible refine same_updO (by with_unfolding_all exact rfl) ?_ | with_reducible refine same_updN ?_ | with_reducible refine same_updL (by with_unfolding_all exact rfl) ?_ | with_reducible refine same_forget (by with_unfolding_all exact rfl) ?_)) (rfl) (by repeat (first | exact trivial | refine And.intro (Nat.le_refl _) ?_ | refine And.intro trivial ?_ | refine And.intro (by show _ ≤ _; (first | omega | (simp only [LS] <;> omega))) ?_)) (by repeat (first | exact trivial | refine And.intro (one_ok (.own _ _ _ _ _ (Nat.le_refl _))) ?_ | refine And.intro (okp (by repeat (first | exact pu_bytes _ | exact pu_nil | exact pu_vs rfl | exact pu_map (fun _ => .v _) _ | exact pu_vals _ | refine pu_app ?_ ?_ | refine pu_cons (by exact pu_of rfl) ?_))) ?_))
      ·
        have p8 := c8
        try simp only [CN] at p8
        refine WC.skip (h14_ _ ?_)
        refine WC.region ?_
        refine RG.op _ _ rfl rfl (o_move (.v _) rfl) ?_
        refine RG.op _ _ rfl rfl (o_addU (b := 1) rfl rfl) ?_
        refine RG.op _ _ rfl rfl (o_move (.v _) rfl) ?_
        refine RG.op _ _ rfl rfl (o_assign (.v _) rfl) ?_
        refine RG.op _ _ rfl rfl (o_assign (.v _) rfl) ?_
        refine RG.nil (h9_ _ ?_)
        refine WC.region ?_
        refine RG.op _ _ rfl rfl (o_add rfl rfl (by first | omega | exact ubyte _ | (simp only [LS] <;> omega)) (by first | omega | exact ubyte _ | (simp only [LS] <;> omega))) ?_
        refine RG.op _ _ rfl rfl (o_move (.v _) rfl) ?_
        refine RG.nil (Exists.intro ((p.1 + 1, p.2.1, p.2.2.1 + 1, wrapI (wrapI (l[p.1]'hlt) p.2.2.2.2.1) p.2.2.2.2.2, l[p.1]'hlt, wrapI (l[p.1]'hlt) p.2.2.2.2.1)) ⟨⟨by show p.1 + 1 ≤ _; omega, by show p.2.2.1 + 1 ≤ p.1 + 1; omega, by rw [hk3]; exact runsF_on hlt (by rintro ⟨h1, h2⟩; rcases p8 with h | h; omega; exact h2 h)⟩, (by show _ < _; omega), ?_⟩)
        exact .mk' ⟨⟨rfl, .v _⟩, ⟨congrArg N64 (show (p.2.2.1 + 1) % 18446744073709551616 = p.2.2.1 + 1 by omega), .v _⟩, ⟨rfl, .v _⟩, ⟨rfl, .v _⟩, ⟨rfl, .v _⟩, trivial⟩ (by repeat (first | with_reducible exact same_refl _ _ | with_reducible refine same_updO (by with_unfolding_all exact rfl) ?_ | with_reducible refine same_updN ?_ | with_reducible refine same_updL (by with_unfolding_all exact rfl) ?_ | with_reducible refine same_forget (by with_unfolding_all exact rfl) ?_)) (rfl) (by repeat (first | exact trivial | refine And.intro (Nat.le_refl _) ?_ | refine And.intro trivial ?_ | refine And.intro (by show _ ≤ _; (first | omega | (simp only [LS] <;> omega))) ?_)) (by repeat (first | exact trivial | refine And.intro (one_ok (.own _ _ _ _ _ (Nat.le_refl _))) ?_ | refine And.intro (okp (by repeat (first | exact pu_bytes _ | exact pu_nil | exact pu_vs rfl | exact pu_map (fun _ => .v _) _ | exact pu_vals _ | refine pu_app ?_ ?_ | refine pu_cons (by exact pu_of rfl) ?_))) ?_))
    ·
      have p3 := c3
      try simp only [CN] at p3
      have hen : l.drop p.1 = [] := List.drop_eq_nil_of_le (by omega)
      refine WC.exit (h3_ _ ?_)
      refine WC.seq fun Fh18_ h18_ => ?_
      refine WC.region ?_
      refine RG.op _ _ rfl rfl (o_move (.v _) rfl) ?_
      refine RG.op _ _ rfl rfl (o_gtI rfl rfl) ?_
      refine RG.nil (h18_ _ ?_)
      refine WC.cond _ rfl (fun c13 => ?_) (fun c13 => ?_)
      ·
        have p13 := c13
        try simp only [CN] at p13
        have hd := drop_head (hk3.trans (runsF_last hen (by omega)))
        have hyk := hy_ p.2.1 hd.1
        rw [hd.2.1] at hyk
        refine WC.region ?_
        refine RG.op _ _ rfl rfl (o_move (.v _) rfl) ?_
        refine RG.op _ _ rfl rfl (o_move (.v _) rfl) ?_
        refine RG.op _ _ rfl rfl (o_move (.v _) rfl) ?_
        refine RG.opM _ _ rfl rfl (x_yieldF (ds := [N64 p.2.2.1, I64 p.2.2.2.1]) (putH prs p.2.1) (putH prs (p.2.1 + 1)) [] rfl hC_ (by rw [har_]; rfl) ⟨.inl rfl, .inl rfl, trivial⟩ (by exact pua rfl) rfl rfl (putH_ok _ _) (putH_ok _ _) hyk) ?_
        refine RG.nil ?_
        refine endM.mkN 2 [_, _] rfl rfl (by repeat (first | exact trivial | refine And.intro (one_ok (.own _ _ _ _ _ (Nat.le_refl _))) ?_ | refine And.intro (okp (by repeat (first | exact pu_bytes _ | exact pu_nil | exact pu_vs rfl | exact pu_map (fun _ => .v _) _ | exact pu_vals _ | refine pu_app ?_ ?_ | refine pu_cons (by exact pu_of rfl) ?_))) ?_)) ?_
        exact EndsM.r0 rfl   (⟨⟨_, rfl⟩, putH_all hd.2.2⟩)
      ·
        have p13 := c13
        try simp only [CN] at p13
        have hno := hk3.trans (runsF_none hen (by omega))
        refine WC.skip ?_
        refine endM.mkN 2 [_, _] rfl rfl (by repeat (first | exact trivial | refine And.intro (one_ok (.own _ _ _ _ _ (Nat.le_refl _))) ?_ | refine And.intro (okp (by repeat (first | exact pu_bytes _ | exact pu_nil | exact pu_vs rfl | exact pu_map (fun _ => .v _) _ | exact pu_vals _ | refine pu_app ?_ ?_ | refine pu_cons (by exact pu_of rfl) ?_))) ?_)) ?_
        exact EndsM.r0 rfl   (⟨⟨_, rfl⟩, putH_all hno⟩)
end Go.Proofs.Ytpdjcfhmdeeikaa
namespace Go.Proofs.Ytpdjcfhmdeeikaa
open Go.RowKit Go.DL

set_option maxHeartbeats 4000000 in
theorem runs_c (l : List Int) : Fun Try.prog 63 [rdI l] (· = .fn (.func 70) [.adr [rdI l]]) := by
  refine Fun.of Try.func63 rfl (Nat.le_of_ble_eq_true rfl) fun C => ?_
  refine WC.seq fun Fh1_ h1_ => ?_
  refine WC.region ?_
  refine RG.op _ _ rfl rfl (o_box (d := .rd _ _) rfl rfl) ?_
  refine RG.op _ _ rfl rfl (o_assign (.v _) rfl) ?_
  refine RG.nil (h1_ _ ?_)
  refine WC.seq fun Fh2_ h2_ => ?_
  refine WC.frz 0 _ [(1, .adr [rdI l])] rfl (by repeat (first | exact pu_bytes _ | exact pu_nil | exact pu_vs rfl | exact pu_map (fun _ => .v _) _ | exact pu_vals _ | refine pu_app ?_ ?_ | refine pu_cons (by exact pu_of rfl) ?_)) ⟨.ptr 0, trivial⟩ ?_
  refine WC.region ?_
  refine RG.op _ _ rfl rfl (o_makeFunc) ?_
  refine RG.op _ _ rfl rfl (o_assign (.fn _ _) rfl) ?_
  refine RG.nil (h2_ _ ?_)
  refine WC.ret ?_
  exact Ends.r1 rfl (.tmp _ (.fn _ _) rfl) (.pure' (by exact pu_of rfl)) (rfl)
theorem wrap_rng (a b : Int) : -9223372036854775808 ≤ wrapI a b ∧ wrapI a b ≤ 9223372036854775807 := by
  unfold wrapI sgn
  split <;> omega
theorem runsF_ok : ∀ (l : List Int) (la st : Int) (n : Nat) (c : Int), n + l.length ≤ 18446744073709551615 → -9223372036854775808 ≤ c → c ≤ 9223372036854775807 → (∀ p ∈ runsF l la st n c, okP p) ∧ (runsF l la st n c).length ≤ l.length + 1
  | [], la, st, n, c, h, h1, h2 => by
    rw [runsF]
    split
    · refine ⟨fun p hp => ?_, by simp⟩
      rw [List.mem_singleton] at hp
      subst hp
      exact ⟨by simpa using h, h1, h2⟩
    · exact ⟨fun p hp => by simp at hp, by simp⟩
  | v :: l, la, st, n, c, h, h1, h2 => by
    have hw := wrap_rng (wrapI v la) st
    rw [List.length_cons] at h
    rw [runsF]
    split
    · have ih := runsF_ok l v (wrapI v la) 1 _ (by omega) hw.1 hw.2
      refine ⟨fun p hp => ?_, by simp only [List.length_cons]; omega⟩
      rcases List.mem_cons.1 hp with rfl | hp
      · exact ⟨show n ≤ _ by omega, h1, h2⟩
      · exact ih.1 p hp
    · have ih := runsF_ok l v (wrapI v la) (n + 1) _ (by omega) hw.1 hw.2
      exact ⟨ih.1, by simp only [List.length_cons]; omega⟩
def putI5 (l : List Int) : List UInt8 := (runsM l).flatMap encP
theorem iputs_c (l : List Int) (hl : l.length ≤ 1099511627775) : Fun Try.prog 52 [rdI l] (· = rdB (putI5 l)) := by
  have h := runsF_ok l 0 0 0 0 (by omega) (by decide) (by decide)
  have h2 := iput_c l (runsM l) h.1 (by have := h.2; unfold runsM; omega) (runs_c l) (runs1_c l (by omega) _ rfl)
  have e : bytesP (runsM l) (runsM l).length = putI5 l := by unfold bytesP putI5; rw [List.take_length]
  rw [e] at h2
  exact h2
end Go.Proofs.Ytpdjcfhmdeeikaa




namespace Go.Proofs.Ytpdjcfhmdeeikaa
open Go.RowKit Go.DL

theorem sgn_rng {n : Nat} (h : n ≤ 18446744073709551615) : -9223372036854775808 ≤ sgn n ∧ sgn n ≤ 9223372036854775807 := by unfold sgn; split <;> omega
end Go.Proofs.Ytpdjcfhmdeeikaa
namespace Go.Proofs.Ytpdjcfhmdeeikaa
open Go.RowKit Go.DL

def runsG : List Int → Nat → Int → List (Nat × Int)
  | [], n, c => if 0 < n then [(n, c)] else []
  | d :: r, n, c => if 0 < n ∧ ¬ d = c then (n, c) :: runsG r 1 d else runsG r (n + 1) d
theorem sgn_mod {n : Nat} (h : n ≤ 18446744073709551615) : sgn n % 18446744073709551616 = n := by unfold sgn; split <;> omega
end Go.Proofs.Ytpdjcfhmdeeikaa


namespace Go.Proofs.Ytpdjcfhmdeeikaa
open Go.RowKit Go.DL

theorem vget_len5 (b : List UInt8) : (vget b).2.1 ≤ b.length ∧ ((vget b).2.2 = 0 → 1 ≤ (vget b).2.1) := by
  rcases vget_wrong b with h | h
  · have := vget_back (b := b) (x := (vget b).1) (m := (vget b).2.1) (by rw [← h])
    exact ⟨this.2.1, fun _ => this.1⟩
  · rw [h.2.1]
    exact ⟨Nat.zero_le _, fun h0 => by rw [h0] at h; rcases h.2.2 with h | h <;> cases h⟩
/-! ### The bytes' runs: all changes -/
def addI (a b : Int) : Int := sgn ((a + b) % 18446744073709551616).toNat
/-- Step, last number and numbers of changes. -/
def nS (c : List Int) : Int × Int × List Int := c.foldl (fun q d => (addI q.1 d, addI q.2.1 (addI q.1 d), q.2.2 ++ [addI q.2.1 (addI q.1 d)])) (0, 0, [])
theorem nS_snoc (c : List Int) (d : Int) : nS (c ++ [d]) = (addI (nS c).1 d, addI (nS c).2.1 (addI (nS c).1 d), (nS c).2.2 ++ [addI (nS c).2.1 (addI (nS c).1 d)]) := by
  unfold nS; rw [List.foldl_append]; rfl
theorem nS_len (c : List Int) : (nS c).2.2.length = c.length := by
  have h : ∀ (c : List Int) (q : Int × Int × List Int), (c.foldl (fun q d => (addI q.1 d, addI q.2.1 (addI q.1 d), q.2.2 ++ [addI q.2.1 (addI q.1 d)])) q).2.2.length = q.2.2.length + c.length := by
    intro c
    induction c with
    | nil => intro q; rfl
    | cons d c ih => intro q; rw [List.foldl_cons, ih]; simp; omega
  have := h c (0, 0, [])
  unfold nS; rw [this]; simp
def gI (b : List UInt8) (n : Nat) : Nat → Nat → List Int → List Int × Nat
  | 0, _, _ => ([], 21)
  | f + 1, a, c =>
    if n ≤ c.length then (if a < b.length then ([], 21) else (c, 0))
    else if ¬ (vget (b.drop a)).2.2 = 0 then ([], (vget (b.drop a)).2.2)
    else if (vget (b.drop a)).1 = 0 ∨ n - c.length < (vget (b.drop a)).1 then ([], 21)
    else if ¬ (vget (b.drop (a + (vget (b.drop a)).2.1))).2.2 = 0 then ([], (vget (b.drop (a + (vget (b.drop a)).2.1))).2.2)
    else if 0 < c.length ∧ c.getD (c.length - 1) 0 = zagI (vget (b.drop (a + (vget (b.drop a)).2.1))).1 then ([], 21)
    else gI b n f (a + (vget (b.drop a)).2.1 + (vget (b.drop (a + (vget (b.drop a)).2.1))).2.1) (c ++ List.replicate (vget (b.drop a)).1 (zagI (vget (b.drop (a + (vget (b.drop a)).2.1))).1))
theorem gI_fuel (b : List UInt8) (n : Nat) : ∀ (f f' a : Nat) (c : List Int), n + 1 ≤ c.length + f → n + 1 ≤ c.length + f' → 0 < f → 0 < f' → gI b n f a c = gI b n f' a c
  | 0, _, _, _, _, _, h, _ => absurd h (by omega)
  | _, 0, _, _, _, _, _, h => absurd h (by omega)
  | f + 1, f' + 1, a, c, h1, h2, _, _ => by
    rw [gI, gI]
    by_cases e1 : n ≤ c.length
    · rw [if_pos e1, if_pos e1]
    rw [if_neg e1, if_neg e1]
    split
    · rfl
    split
    · rfl
    rename_i e2
    split
    · rfl
    split
    · rfl
    refine gI_fuel b n f f' _ _ ?_ ?_ ?_ ?_ <;> (try simp only [List.length_append, List.length_replicate]) <;> omega
def repI (c : List Int) (k : Nat) (d : Int) : List Int := c ++ List.replicate k d
/-- The row of bytes behind place a, so many changes being told. -/
def gG (b : List UInt8) (n a : Nat) (c : List Int) : List Int × Nat := gI b n (n + 1 - c.length + 1) a c
section
variable {b : List UInt8} {n a : Nat} {c : List Int}
theorem gG_end (h : n ≤ c.length) (ha : ¬ a < b.length) : gG b n a c = (c, 0) := by unfold gG; rw [gI, if_pos h, if_neg ha]
theorem gG_rest (h : n ≤ c.length) (ha : a < b.length) : gG b n a c = ([], 21) := by unfold gG; rw [gI, if_pos h, if_pos ha]
variable {r s : Nat × Nat × Nat}
theorem gG_bad1 (h : c.length < n) (hr : r = vget (b.drop a)) (h1 : ¬ r.2.2 = 0) : gG b n a c = ([], r.2.2) := by subst hr; unfold gG; rw [gI, if_neg (by omega), if_pos h1]
theorem gG_many (h : c.length < n) (hr : r = vget (b.drop a)) (h1 : r.2.2 = 0) (h2 : r.1 = 0 ∨ n - c.length < r.1) : gG b n a c = ([], 21) := by subst hr; unfold gG; rw [gI, if_neg (by omega), if_neg (fun hh => hh h1), if_pos h2]
theorem gG_bad2 (h : c.length < n) (hr : r = vget (b.drop a)) (h1 : r.2.2 = 0) (h2 : ¬ (r.1 = 0 ∨ n - c.length < r.1)) (hs : s = vget (b.drop (a + r.2.1))) (h3 : ¬ s.2.2 = 0) : gG b n a c = ([], s.2.2) := by subst hs hr; unfold gG; rw [gI, if_neg (by omega), if_neg (fun hh => hh h1), if_neg h2, if_pos h3]
theorem gG_same (h : c.length < n) (hr : r = vget (b.drop a)) (h1 : r.2.2 = 0) (h2 : ¬ (r.1 = 0 ∨ n - c.length < r.1)) (hs : s = vget (b.drop (a + r.2.1))) (h3 : s.2.2 = 0) (h4 : 0 < c.length ∧ c.getD (c.length - 1) 0 = zagI s.1) : gG b n a c = ([], 21) := by subst hs hr; unfold gG; rw [gI, if_neg (by omega), if_neg (fun hh => hh h1), if_neg h2, if_neg (fun hh => hh h3), if_pos h4]
theorem gG_step (h : c.length < n) (hr : r = vget (b.drop a)) (h1 : r.2.2 = 0) (h2 : ¬ (r.1 = 0 ∨ n - c.length < r.1)) (hs : s = vget (b.drop (a + r.2.1))) (h3 : s.2.2 = 0) (h4 : ¬ (0 < c.length ∧ c.getD (c.length - 1) 0 = zagI s.1)) : gG b n a c = gG b n (a + r.2.1 + s.2.1) (repI c r.1 (zagI s.1)) := by
  subst hs hr
  conv => lhs; unfold gG
  rw [gI, if_neg (by omega), if_neg (fun hh => hh h1), if_neg h2, if_neg (fun hh => hh h3), if_neg h4]
  unfold gG repI
  refine gI_fuel _ _ _ _ _ _ ?_ ?_ ?_ ?_ <;> (try simp only [List.length_append, List.length_replicate]) <;> omega
end
theorem repI_len (c : List Int) (k : Nat) (d : Int) : (repI c k d).length = c.length + k := by simp [repI]
theorem repI_zero (c : List Int) (d : Int) : repI c 0 d = c := by simp [repI]
theorem repI_succ (c : List Int) (k : Nat) (d : Int) : repI c (k + 1) d = repI c k d ++ [d] := by unfold repI; rw [List.replicate_succ', List.append_assoc]
theorem repI_getD (c : List Int) (m : Nat) (d : Int) (h : 0 < m) : (repI c m d).getD ((repI c m d).length - 1) 0 = d := by
  obtain ⟨k, rfl⟩ : ∃ k, m = k + 1 := ⟨m - 1, by omega⟩
  rw [repI_succ]
  simp [List.getD]
theorem addI_u (a b : Int) : sgn (((a % 18446744073709551616).toNat + (b % 18446744073709551616).toNat) % 18446744073709551616) = addI a b := by unfold addI; exact congrArg sgn (by omega)
theorem repI_out {c : List Int} {k : Nat} {d : Int} : (nS (repI c (k + 1) d)).2.2.map I64 = (nS (repI c k d)).2.2.map I64 ++ [I64 (nS (repI c (k + 1) d)).2.1] := by rw [repI_succ, nS_snoc]; simp
theorem repI_st {c : List Int} {k : Nat} {d : Int} : (nS (repI c (k + 1) d)).1 = addI (nS (repI c k d)).1 d := by rw [repI_succ, nS_snoc]
theorem repI_la {c : List Int} {k : Nat} {d : Int} : (nS (repI c (k + 1) d)).2.1 = addI (nS (repI c k d)).2.1 (nS (repI c (k + 1) d)).1 := by rw [repI_succ, nS_snoc]
theorem vgetE_c {b : List UInt8} {r : Nat × Nat × Nat} (hr : r = vget b) (hb : b.length ≤ 10995116277760) : Fun Try.prog 55 [rdB b] (· = vr r) := by subst hr; exact vget_c b hb
abbrev VI (r : List Int × Nat) : D := .tup [rdI (nS r.1).2.2, I64 r.2]
def getI5 (b : List UInt8) (n : Int) : List Int × Nat := if n < 0 ∨ 65536 < n then ([], 1) else gG b n.toNat 0 []
end Go.Proofs.Ytpdjcfhmdeeikaa
namespace Go.Proofs.Ytpdjcfhmdeeikaa
open Go.RowKit Go.DL

set_option maxRecDepth 20000 in
set_option maxHeartbeats 4000000 in
theorem iget_c (b : List UInt8) (m : Nat) (hb : b.length ≤ 10995116277760) (hm : m ≤ 65536) : Fun Try.prog 53 [rdB b, I64 ((m : Nat) : Int)] (· = VI (gG b m 0 [])) := by
  refine Fun.of Try.func53 rfl (Nat.le_of_ble_eq_true rfl) fun C => ?_
  refine WC.seq fun Fh1_ h1_ => ?_
  refine WC.region ?_
  refine RG.op _ _ rfl rfl (o_assign (.v _) rfl) ?_
  refine RG.op _ _ rfl rfl (o_assign (.v _) rfl) ?_
  refine RG.nil (h1_ _ ?_)
  refine WC.seq fun Fh2_ h2_ => ?_
  refine WC.seq fun Fh3_ h3_ => ?_
  refine WC.region ?_
  refine RG.op _ _ rfl rfl (o_move (.v _) rfl) ?_
  refine RG.op _ _ rfl rfl (o_ltI rfl rfl) ?_
  refine RG.op _ _ rfl rfl (o_move (.v _) rfl) ?_
  refine RG.opg1 _ _ _ _ _ rfl rfl rfl rfl rfl (fun hb => o_move (.v _) rfl) ?_
  refine RG.opg1 _ _ _ _ _ rfl rfl rfl rfl rfl (fun hb => o_gtI (gdT hb) rfl) ?_
  refine RG.op _ _ rfl rfl (o_or _ _ rfl rfl rfl) ?_
  refine RG.nil (h3_ _ ?_)
  refine WC.cond _ rfl (fun c1 => ?_) (fun c1 => ?_)
  ·
    have p1 := c1
    try simp only [CN] at p1
    exfalso; omega
  ·
    have p1 := c1
    try simp only [CN] at p1
    refine WC.skip (h2_ _ ?_)
    refine WC.seq fun Fh4_ h4_ => ?_
    refine WC.region ?_
    refine RG.op _ _ rfl rfl (o_move (.v _) rfl) ?_
    refine RG.op _ _ rfl rfl (o_makeT 0 0 m rfl rfl Try.underlying58 Ty.inf2 rfl rfl (by first | omega | exact ubyte _ | (simp only [LS, nS_len] <;> omega)) (by first | omega | exact ubyte _ | (simp only [LS, nS_len] <;> omega)) (by first | omega | exact ubyte _ | (simp only [LS, nS_len] <;> omega)) (by first | omega | exact ubyte _ | (simp only [LS, nS_len] <;> omega)) (by first | omega | exact ubyte _ | (simp only [LS, nS_len] <;> omega))) ?_
    refine RG.op _ _ rfl rfl (o_assign (.own _ _ _ _ _) rfl) ?_
    refine RG.nil (h4_ _ ?_)
    refine WC.seq fun Fh5_ h5_ => ?_
    refine WC.region ?_
    refine RG.op _ _ rfl rfl (o_assign (.v _) rfl) ?_
    refine RG.op _ _ rfl rfl (o_assign (.v _) rfl) ?_
    refine RG.op _ _ rfl rfl (o_assign (.v _) rfl) ?_
    refine RG.nil (h5_ _ ?_)
    refine WC.seq fun Fh6_ h6_ => ?_
    refine WC.seq fun Fh7_ h7_ => ?_
    refine WC.region ?_
    refine RG.op _ _ rfl rfl (o_assign (.v _) rfl) ?_
    refine RG.nil (h7_ _ ?_)
    refine WC.block ?_
    refine WC.loopU [4, 5, 6, 7, 8, 9, 10, 11, 12, 13, 14, 15, 24, 25, 26, 27, 28, 29, 30, 31, 32, 33, 34, 35, 36, 37, 38, 39, 40, 41, 42, 43, 44, 45, 46, 47, 48, 49, 50, 51, 52, 53, 54, 55, 56, 57, 58, 59, 60, 61, 62, 63, 64, 65, 66, 67, 68, 69, 70, 71, 72, 73, 74, 75, 76, 77, 78, 79, 80, 81, 82, 83, 84, 85, 86, 87, 88, 89, 90, 91, 92, 93, 94, 95, 96, 97, 98, 99, 100, 101, 102, 103, 104, 105, 106, 107] (fun (p : Nat × List Int × Int) => [(10, I64 ((p.1 : Nat) : Int)), (6, ow 0 p.2.1.length 1), (7, I64 (nS p.2.1).2.1), (8, I64 (nS p.2.1).1), (9, I64 p.2.2)]) (fun (p : Nat × List Int × Int) => [(0, tb 2 p.2.1.length ((nS p.2.1).2.2.map I64))]) (fun (p : Nat × List Int × Int) => p.1 ≤ b.length ∧ p.2.1.length ≤ m ∧ (0 < p.2.1.length → p.2.1.getD (p.2.1.length - 1) 0 = p.2.2) ∧ gG b m 0 [] = gG b m p.1 p.2.1 ∧ (p.2.1.length = m → p.1 < b.length → m = 0) ∧ (m = 0 → p.1 = 0)) (fun (p : Nat × List Int × Int) => m - p.2.1.length) (0, [], 0) ⟨Nat.zero_le _, Nat.zero_le _, fun h => absurd h (Nat.lt_irrefl _), rfl, fun h _ => h.symm, fun _ => rfl⟩ ?lpa8_ ?lpb9_
    case lpa8_ =>
      exact .mk' ⟨⟨rfl, .v _⟩, ⟨rfl, (by first | exact .own _ _ _ _ _ (Nat.le_refl _) | exact .ptr _ _ _ (Nat.le_refl _) | exact .omp _ _ (Nat.le_refl _))⟩, ⟨rfl, .v _⟩, ⟨rfl, .v _⟩, ⟨rfl, .v _⟩, trivial⟩ (same_refl _ _) (rfl) (by repeat (first | exact trivial | refine And.intro (Nat.le_refl _) ?_ | refine And.intro trivial ?_ | refine And.intro (by show _ ≤ _; (first | omega | (simp only [LS, nS_len] <;> omega))) ?_)) (by repeat (first | exact trivial | refine And.intro (one_ok (.own _ _ _ _ _ (Nat.le_refl _))) ?_ | refine And.intro (okp (by repeat (first | exact pu_bytes _ | exact pu_nil | exact pu_vs rfl | exact pu_map (fun _ => .v _) _ | exact pu_vals _ | refine pu_app ?_ ?_ | refine pu_cons (by exact pu_of rfl) ?_))) ?_))
    case lpb9_ =>
      rintro p hI
      have hk1 := hI.1
      have hk2 := hI.2.1
      have hk3 := hI.2.2.1
      have hk4 := hI.2.2.2.1
      have hk5 := hI.2.2.2.2.1
      have hk6 := hI.2.2.2.2.2
      obtain ⟨r, hr⟩ : ∃ r, r = vget (b.drop p.1) := ⟨_, rfl⟩
      obtain ⟨s, hs⟩ : ∃ s, s = vget (b.drop (p.1 + r.2.1)) := ⟨_, rfl⟩
      have hv1 := vget_len5 (b.drop p.1)
      have hw1 := vget_lt (b.drop p.1)
      have hv2 := vget_len5 (b.drop (p.1 + r.2.1))
      have hw2 := vget_lt (b.drop (p.1 + r.2.1))
      rw [List.length_drop, ← hr] at hv1
      rw [List.length_drop, ← hs] at hv2
      rw [← hr] at hw1
      rw [← hs] at hw2
      have hg1 := vgetE_c hr (by rw [List.length_drop]; omega)
      have hg2 := vgetE_c hs (by rw [List.length_drop]; omega)
      refine WC.seq fun Fh10_ h10_ => ?_
      refine WC.seq fun Fh11_ h11_ => ?_
      refine WC.region ?_
      refine RG.op _ _ rfl rfl (o_move (.own _ _ _ _ _) rfl) ?_
      refine RG.op _ _ rfl rfl (o_len_own rfl Try.underlying58) ?_
      refine RG.op _ _ rfl rfl (o_move (.v _) rfl) ?_
      refine RG.op _ _ rfl rfl (o_ltI rfl rfl) ?_
      refine RG.nil (h11_ _ ?_)
      refine WC.cond _ rfl (fun c6 => ?_) (fun c6 => ?_)
      ·
        have p6 := c6
        try simp only [CN] at p6
        have hlt : p.2.1.length < m := by omega
        refine WC.skip (h10_ _ ?_)
        refine WC.block ?_
        refine WC.seq fun Fh12_ h12_ => ?_
        refine WC.region ?_
        refine RG.op _ _ rfl rfl (o_move (.rd _ _) rfl) ?_
        refine RG.op _ _ rfl rfl (o_move (.v _) rfl) ?_
        refine RG.op _ _ rfl rfl (o_dropM p.1 rfl rfl Try.underlying24 (sz_of Ty.inf5) (by first | omega | exact ubyte _ | (simp only [LS, nS_len] <;> omega)) (by first | omega | exact ubyte _ | (simp only [LS, nS_len] <;> omega))) ?_
        refine RG.op _ _ rfl rfl ((by exact o_call (ds := [rdB (b.drop p.1)]) Ty.cal55 hg1 ⟨.inl rfl, trivial⟩ (by exact pua rfl))) ?_
        refine RG.op _ _ rfl rfl (o_move (.tup _) rfl) ?_
        refine RG.op _ _ rfl rfl (o_extract rfl rfl) ?_
        refine RG.op _ _ rfl rfl (o_extract rfl rfl) ?_
        refine RG.op _ _ rfl rfl (o_extract rfl rfl) ?_
        refine RG.op _ _ rfl rfl (o_assign (.v _) rfl) ?_
        refine RG.op _ _ rfl rfl (o_assign (.v _) rfl) ?_
        refine RG.op _ _ rfl rfl (o_assign (.v _) rfl) ?_
        refine RG.nil (h12_ _ ?_)
        refine WC.seq fun Fh13_ h13_ => ?_
        refine WC.seq fun Fh14_ h14_ => ?_
        refine WC.region ?_
        refine RG.op _ _ rfl rfl (o_move (.v _) rfl) ?_
        refine RG.op _ _ rfl rfl (o_neI rfl rfl) ?_
        refine RG.nil (h14_ _ ?_)
        refine WC.cond _ rfl (fun c8 => ?_) (fun c8 => ?_)
        ·
          have p8 := c8
          try simp only [CN] at p8
          refine WC.seq fun Fh15_ h15_ => ?_
          refine WC.region ?_
          refine RG.op _ _ rfl rfl (o_move (.v _) rfl) ?_
          refine RG.op _ _ rfl rfl (o_assign (.v _) rfl) ?_
          refine RG.op _ _ rfl rfl (o_assign (.v _) rfl) ?_
          refine RG.nil (h15_ _ ?_)
          refine WC.ret ?_
          exact Ends.r2 rfl (.tmp _ (.v _) rfl) (.tmp _ (.v _) rfl) .nilr (.v _) (by rw [hk4, gG_bad1 hlt hr (by omega)]; rfl)
        ·
          have p8 := c8
          try simp only [CN] at p8
          have hz1 : r.2.2 = 0 := by omega
          refine WC.skip (h13_ _ ?_)
          refine WC.seq fun Fh16_ h16_ => ?_
          refine WC.seq fun Fh17_ h17_ => ?_
          refine WC.region ?_
          refine RG.op _ _ rfl rfl (o_move (.v _) rfl) ?_
          refine RG.op _ _ rfl rfl (o_eqI rfl rfl) ?_
          refine RG.op _ _ rfl rfl (o_move (.v _) rfl) ?_
          refine RG.opg1 _ _ _ _ _ rfl rfl rfl rfl rfl (fun hb => o_move (.v _) rfl) ?_
          refine RG.opg1 _ _ _ _ _ rfl rfl rfl rfl rfl (fun hb => o_move (.v _) rfl) ?_
          refine RG.opg1 _ _ _ _ _ rfl rfl rfl rfl rfl (fun hb => o_move (.own _ _ _ _ _) rfl) ?_
          refine RG.opg1 _ _ _ _ _ rfl rfl rfl rfl rfl (fun hb => o_len_own (gdT hb) Try.underlying58) ?_
          refine RG.opg1 _ _ _ _ _ rfl rfl rfl rfl rfl (fun hb => o_sub (gdT hb) (gdT hb) (by first | omega | exact ubyte _ | (have hb' := hb; simp only [CN] at hb'; omega) | (simp only [LS, nS_len] <;> omega) | (have hb' := hb; simp only [CN] at hb'; simp only [LS, nS_len]; omega)) (by first | omega | exact ubyte _ | (have hb' := hb; simp only [CN] at hb'; omega) | (simp only [LS, nS_len] <;> omega) | (have hb' := hb; simp only [CN] at hb'; simp only [LS, nS_len]; omega))) ?_
          refine RG.opg1 _ _ _ _ _ rfl rfl rfl rfl rfl (fun hb => o_i64toU (gdT hb) Try.underlying3 Try.underlying69) ?_
          refine RG.opg1 _ _ _ _ _ rfl rfl rfl rfl rfl (fun hb => o_gtI (gdT hb) (gdT hb)) ?_
          refine RG.op _ _ rfl rfl (o_or _ _ rfl rfl rfl) ?_
          refine RG.nil (h17_ _ ?_)
          refine WC.cond _ rfl (fun c10 => ?_) (fun c10 => ?_)
          ·
            have p10 := c10
            try simp only [CN] at p10
            refine WC.seq fun Fh18_ h18_ => ?_
            refine WC.region ?_
            refine RG.op _ _ rfl rfl (o_assign (.v _) rfl) ?_
            refine RG.op _ _ rfl rfl (o_assign (.v _) rfl) ?_
            refine RG.nil (h18_ _ ?_)
            refine WC.ret ?_
            exact Ends.r2 rfl (.tmp _ (.v _) rfl) (.tmp _ (.v _) rfl) .nilr (.v _) (by rw [hk4, gG_many hlt hr hz1 (by omega)]; rfl)
          ·
            have p10 := c10
            try simp only [CN] at p10
            have hc1 : ¬ (r.1 = 0 ∨ m - p.2.1.length < r.1) := by omega
            refine WC.skip (h16_ _ ?_)
            refine WC.seq fun Fh19_ h19_ => ?_
            refine WC.region ?_
            refine RG.op _ _ rfl rfl (o_move (.v _) rfl) ?_
            refine RG.op _ _ rfl rfl (o_move (.v _) rfl) ?_
            refine RG.op _ _ rfl rfl (o_add rfl rfl (by first | omega | exact ubyte _ | (simp only [LS, nS_len] <;> omega)) (by first | omega | exact ubyte _ | (simp only [LS, nS_len] <;> omega))) ?_
            refine RG.op _ _ rfl rfl (o_assign (.v _) rfl) ?_
            refine RG.nil (h19_ _ ?_)
            refine WC.seq fun Fh20_ h20_ => ?_
            refine WC.region ?_
            refine RG.op _ _ rfl rfl (o_move (.rd _ _) rfl) ?_
            refine RG.op _ _ rfl rfl (o_move (.v _) rfl) ?_
            refine RG.op _ _ rfl rfl (o_dropM (p.1 + (r.2.1)) rfl rfl Try.underlying24 (sz_of Ty.inf5) (by first | omega | exact ubyte _ | (simp only [LS, nS_len] <;> omega)) (by first | omega | exact ubyte _ | (simp only [LS, nS_len] <;> omega))) ?_
            refine RG.op _ _ rfl rfl ((by exact o_call (ds := [rdB (b.drop (p.1 + r.2.1))]) Ty.cal55 hg2 ⟨.inl rfl, trivial⟩ (by exact pua rfl))) ?_
            refine RG.op _ _ rfl rfl (o_move (.tup _) rfl) ?_
            refine RG.op _ _ rfl rfl (o_extract rfl rfl) ?_
            refine RG.op _ _ rfl rfl (o_extract rfl rfl) ?_
            refine RG.op _ _ rfl rfl (o_extract rfl rfl) ?_
            refine RG.op _ _ rfl rfl (o_assign (.v _) rfl) ?_
            refine RG.op _ _ rfl rfl (o_assign (.v _) rfl) ?_
            refine RG.op _ _ rfl rfl (o_assign (.v _) rfl) ?_
            refine RG.nil (h20_ _ ?_)
            refine WC.seq fun Fh21_ h21_ => ?_
            refine WC.seq fun Fh22_ h22_ => ?_
            refine WC.region ?_
            refine RG.op _ _ rfl rfl (o_move (.v _) rfl) ?_
            refine RG.op _ _ rfl rfl (o_neI rfl rfl) ?_
            refine RG.nil (h22_ _ ?_)
            refine WC.cond _ rfl (fun c14 => ?_) (fun c14 => ?_)
            ·
              have p14 := c14
              try simp only [CN] at p14
              refine WC.seq fun Fh23_ h23_ => ?_
              refine WC.region ?_
              refine RG.op _ _ rfl rfl (o_move (.v _) rfl) ?_
              refine RG.op _ _ rfl rfl (o_assign (.v _) rfl) ?_
              refine RG.op _ _ rfl rfl (o_assign (.v _) rfl) ?_
              refine RG.nil (h23_ _ ?_)
              refine WC.ret ?_
              exact Ends.r2 rfl (.tmp _ (.v _) rfl) (.tmp _ (.v _) rfl) .nilr (.v _) (by rw [hk4, gG_bad2 hlt hr hz1 hc1 hs (by omega)]; rfl)
            ·
              have p14 := c14
              try simp only [CN] at p14
              have hz2 : s.2.2 = 0 := by omega
              refine WC.skip (h21_ _ ?_)
              refine WC.seq fun Fh24_ h24_ => ?_
              refine WC.region ?_
              refine RG.op _ _ rfl rfl (o_move (.v _) rfl) ?_
              refine RG.op _ _ rfl rfl (o_call Ty.cal65 (vzag_c _ (by first | omega | exact ubyte _ | (simp only [LS, nS_len] <;> omega))) ⟨.inl rfl, trivial⟩ (by exact pua rfl)) ?_
              refine RG.op _ _ rfl rfl (o_assign (.v _) rfl) ?_
              refine RG.nil (h24_ _ ?_)
              refine WC.seq fun Fh25_ h25_ => ?_
              refine WC.seq fun Fh26_ h26_ => ?_
              refine WC.region ?_
              refine RG.op _ _ rfl rfl (o_move (.own _ _ _ _ _) rfl) ?_
              refine RG.op _ _ rfl rfl (o_len_own rfl Try.underlying58) ?_
              refine RG.op _ _ rfl rfl (o_gtI rfl rfl) ?_
              refine RG.op _ _ rfl rfl (o_move (.v _) rfl) ?_
              refine RG.opg1 _ _ _ _ _ rfl rfl rfl rfl rfl (fun hb => o_move (.v _) rfl) ?_
              refine RG.opg1 _ _ _ _ _ rfl rfl rfl rfl rfl (fun hb => o_move (.v _) rfl) ?_
              refine RG.opg1 _ _ _ _ _ rfl rfl rfl rfl rfl (fun hb => o_eqI (gdT hb) (gdT hb)) ?_
              refine RG.op _ _ rfl rfl (o_and _ _ rfl rfl rfl) ?_
              refine RG.nil (h26_ _ ?_)
              refine WC.cond _ rfl (fun c17 => ?_) (fun c17 => ?_)
              ·
                have p17 := c17
                try simp only [CN] at p17
                refine WC.seq fun Fh27_ h27_ => ?_
                refine WC.region ?_
                refine RG.op _ _ rfl rfl (o_assign (.v _) rfl) ?_
                refine RG.op _ _ rfl rfl (o_assign (.v _) rfl) ?_
                refine RG.nil (h27_ _ ?_)
                refine WC.ret ?_
                exact Ends.r2 rfl (.tmp _ (.v _) rfl) (.tmp _ (.v _) rfl) .nilr (.v _) (by rw [hk4, gG_same hlt hr hz1 hc1 hs hz2 ⟨by omega, by rw [hk3 (by omega)]; exact p17.2.symm⟩]; rfl)
              ·
                have p17 := c17
                try simp only [CN] at p17
                have hc4 : ¬ (0 < p.2.1.length ∧ p.2.1.getD (p.2.1.length - 1) 0 = zagI s.1) := by rintro ⟨h1, h2⟩; rw [hk3 h1] at h2; rcases p17 with h | h; omega; exact h h2.symm
                have hst := gG_step hlt hr hz1 hc1 hs hz2 hc4
                refine WC.skip (h25_ _ ?_)
                refine WC.seq fun Fh28_ h28_ => ?_
                refine WC.region ?_
                refine RG.op _ _ rfl rfl (o_move (.v _) rfl) ?_
                refine RG.op _ _ rfl rfl (o_move (.v _) rfl) ?_
                refine RG.op _ _ rfl rfl (o_add rfl rfl (by first | omega | exact ubyte _ | (simp only [LS, nS_len] <;> omega)) (by first | omega | exact ubyte _ | (simp only [LS, nS_len] <;> omega))) ?_
                refine RG.op _ _ rfl rfl (o_assign (.v _) rfl) ?_
                refine RG.nil (h28_ _ ?_)
                refine WC.seq fun Fh29_ h29_ => ?_
                refine WC.region ?_
                refine RG.op _ _ rfl rfl (o_move (.v _) rfl) ?_
                refine RG.op _ _ rfl rfl (o_assign (.v _) rfl) ?_
                refine RG.nil (h29_ _ ?_)
                refine WC.seq fun Fh30_ h30_ => ?_
                refine WC.seq fun Fh31_ h31_ => ?_
                refine WC.region ?_
                refine RG.op _ _ rfl rfl (o_move (.v _) rfl) ?_
                refine RG.op _ _ rfl rfl (o_move (N64 0) rfl) ?_
                refine RG.nil (h31_ _ ?_)
                refine WC.block ?_
                refine WC.loopU [6, 7, 8, 79, 80, 81, 82, 83, 84, 85, 86, 87, 88, 89, 90, 91, 92, 93, 94, 95, 96, 97] (fun (j : Nat) => [(79, N64 j), (6, ow 0 (p.2.1.length + j) 1), (7, I64 (nS (repI p.2.1 j (zagI s.1))).2.1), (8, I64 (nS (repI p.2.1 j (zagI s.1))).1)]) (fun (j : Nat) => [(0, tb 2 (p.2.1.length + j) ((nS (repI p.2.1 j (zagI s.1))).2.2.map I64))]) (fun (j : Nat) => j ≤ r.1) (fun (j : Nat) => r.1 - j) 0 (by first | omega | exact ubyte _ | (simp only [LS, nS_len] <;> omega)) ?lpa32_ ?lpb33_
                case lpa32_ =>
                  exact .mk' ⟨⟨rfl, .v _⟩, ⟨rfl, (by first | exact .own _ _ _ _ _ (Nat.le_refl _) | exact .ptr _ _ _ (Nat.le_refl _) | exact .omp _ _ (Nat.le_refl _))⟩, ⟨congrArg (fun c => I64 (nS c).2.1) (repI_zero _ _).symm, .v _⟩, ⟨congrArg (fun c => I64 (nS c).1) (repI_zero _ _).symm, .v _⟩, trivial⟩ (same_refl _ _) (congrArg (fun c => [c]) (tb_eq rfl (congrArg (fun c => (nS c).2.2.map I64) (repI_zero _ _).symm))) (by repeat (first | exact trivial | refine And.intro (Nat.le_refl _) ?_ | refine And.intro trivial ?_ | refine And.intro (by show _ ≤ _; (first | omega | (simp only [LS, nS_len] <;> omega))) ?_)) (by repeat (first | exact trivial | refine And.intro (one_ok (.own _ _ _ _ _ (Nat.le_refl _))) ?_ | refine And.intro (okp (by repeat (first | exact pu_bytes _ | exact pu_nil | exact pu_vs rfl | exact pu_map (fun _ => .v _) _ | exact pu_vals _ | refine pu_app ?_ ?_ | refine pu_cons (by exact pu_of rfl) ?_))) ?_))
                case lpb33_ =>
                  rintro j hI
                  have hrl := repI_len p.2.1 j (zagI s.1)
                  refine WC.seq fun Fh34_ h34_ => ?_
                  refine WC.region ?_
                  refine RG.op _ _ rfl rfl (o_ltI rfl rfl) ?_
                  refine RG.nil (h34_ _ ?_)
                  refine WC.seq fun Fh35_ h35_ => ?_
                  refine WC.cond _ rfl (fun c22 => ?_) (fun c22 => ?_)
                  ·
                    have p22 := c22
                    try simp only [CN] at p22
                    refine WC.skip (h35_ _ ?_)
                    refine WC.seq fun Fh36_ h36_ => ?_
                    refine WC.block ?_
                    refine WC.seq fun Fh37_ h37_ => ?_
                    refine WC.region ?_
                    refine RG.op _ _ rfl rfl (o_move (.v _) rfl) ?_
                    refine RG.op _ _ rfl rfl (o_i64toU rfl Try.underlying2 Try.underlying69) ?_
                    refine RG.op _ _ rfl rfl (o_move (.v _) rfl) ?_
                    refine RG.op _ _ rfl rfl (o_i64toU rfl Try.underlying2 Try.underlying69) ?_
                    refine RG.op _ _ rfl rfl (o_addU rfl rfl) ?_
                    refine RG.op _ _ rfl rfl (o_UtoI64 rfl (by first | omega | exact ubyte _ | (simp only [LS, nS_len] <;> omega)) Try.underlying69 Try.underlying2) ?_
                    refine RG.op _ _ rfl rfl (o_assign (.v _) rfl) ?_
                    refine RG.nil (h37_ _ ?_)
                    refine WC.seq fun Fh38_ h38_ => ?_
                    refine WC.region ?_
                    refine RG.op _ _ rfl rfl (o_move (.v _) rfl) ?_
                    refine RG.op _ _ rfl rfl (o_i64toU rfl Try.underlying2 Try.underlying69) ?_
                    refine RG.op _ _ rfl rfl (o_move (.v _) rfl) ?_
                    refine RG.op _ _ rfl rfl (o_i64toU rfl Try.underlying2 Try.underlying69) ?_
                    refine RG.op _ _ rfl rfl (o_addU rfl rfl) ?_
                    refine RG.op _ _ rfl rfl (o_UtoI64 rfl (by first | omega | exact ubyte _ | (simp only [LS, nS_len] <;> omega)) Try.underlying69 Try.underlying2) ?_
                    refine RG.op _ _ rfl rfl (o_assign (.v _) rfl) ?_
                    refine RG.nil (h38_ _ ?_)
                    refine WC.region ?_
                    refine RG.op _ _ rfl rfl (o_move (.own _ _ _ _ _) rfl) ?_
                    refine RG.op _ _ rfl rfl (o_move (.v _) rfl) ?_
                    refine RG.op _ _ rfl rfl (o_litP (cs := [(.v _)]) Try.underlying58 Ty.inf2 rfl rfl rfl rfl (by repeat (first | exact pu_bytes _ | exact pu_nil | exact pu_vs rfl | exact pu_map (fun _ => .v _) _ | exact pu_vals _ | refine pu_app ?_ ?_ | refine pu_cons (by exact pu_of rfl) ?_))) ?_
                    refine RG.op _ _ rfl rfl (o_appT (Elem.of Try.underlying58 Ty.inf2 rfl (by decide)) rfl rfl rfl (by first | omega | exact ubyte _ | (simp only [LS, nS_len] <;> omega)) (by first | omega | exact ubyte _ | (simp only [LS, nS_len] <;> omega)) (by repeat (first | exact bytesD_one _ | exact one_nil | exact one_map (fun _ => rfl) _ | exact one_vals _ | refine one_app ?_ ?_ | refine one_cons rfl ?_)) (by first | omega | exact ubyte _ | (simp only [LS, nS_len] <;> omega)) (by first | omega | exact ubyte _ | (simp only [LS, nS_len] <;> omega))) ?_
                    refine RG.op _ _ rfl rfl (o_assign (.own _ _ _ _ _) rfl) ?_
                    refine RG.nil (h36_ _ ?_)
                    have h8 := (addI_u (nS (repI p.2.1 j (zagI s.1))).1 (zagI s.1)).trans repI_st.symm
                    have h7 := (addI_u (nS (repI p.2.1 j (zagI s.1))).2.1 _).trans ((congrArg (addI _) h8).trans repI_la.symm)
                    refine WC.region ?_
                    refine RG.op _ _ rfl rfl (o_addU (b := 1) rfl rfl) ?_
                    refine RG.op _ _ rfl rfl (o_move (.v _) rfl) ?_
                    refine RG.nil (Exists.intro (j + 1) ⟨by first | omega | (simp only [LS, nS_len] <;> omega), by first | omega | (simp only [LS, nS_len] <;> omega), ?_⟩)
                    exact .mk' ⟨⟨congrArg N64 (Nat.mod_eq_of_lt (by omega)), .v _⟩, ⟨rfl, (by first | exact .own _ _ _ _ _ (Nat.le_refl _) | exact .ptr _ _ _ (Nat.le_refl _) | exact .omp _ _ (Nat.le_refl _))⟩, ⟨congrArg I64 h7, .v _⟩, ⟨congrArg I64 h8, .v _⟩, trivial⟩ (by repeat (first | with_reducible exact same_refl _ _ | with_reducible refine same_updO (by with_unfolding_all exact rfl) ?_ | with_reducible refine same_updN ?_ | with_reducible refine same_updL (by with_unfolding_all exact rfl) ?_ | with_reducible refine same_forget (by with_unfolding_all exact rfl) ?_)) (congrArg (fun c => [c]) (tb_eq rfl (by rw [repI_out, ← h7]))) (by repeat (first | exact trivial | refine And.intro (Nat.le_refl _) ?_ | refine And.intro trivial ?_ | refine And.intro (by show _ ≤ _; (first | omega | (simp only [LS, nS_len] <;> omega))) ?_)) (by repeat (first | exact trivial | refine And.intro (one_ok (.own _ _ _ _ _ (Nat.le_refl _))) ?_ | refine And.intro (okp (by repeat (first | exact pu_bytes _ | exact pu_nil | exact pu_vs rfl | exact pu_map (fun _ => .v _) _ | exact pu_vals _ | refine pu_app ?_ ?_ | refine pu_cons (by exact pu_of rfl) ?_))) ?_))
                  ·
                    have p22 := c22
                    try simp only [CN] at p22
                    have hj : j = r.1 := by omega
                    refine WC.exit (h30_ _ ?_)
                    refine WC.seq fun Fh39_ h39_ => ?_
                    refine WC.region ?_
                    refine RG.op _ _ rfl rfl (o_move (.own _ _ _ _ _) rfl) ?_
                    refine RG.op _ _ rfl rfl (o_len_own rfl Try.underlying58) ?_
                    refine RG.op _ _ rfl rfl (o_move (.v _) rfl) ?_
                    refine RG.op _ _ rfl rfl (o_eqI rfl rfl) ?_
                    refine RG.op _ _ rfl rfl (o_move (.v _) rfl) ?_
                    refine RG.opg1 _ _ _ _ _ rfl rfl rfl rfl rfl (fun hb => o_move (.v _) rfl) ?_
                    refine RG.opg1 _ _ _ _ _ rfl rfl rfl rfl rfl (fun hb => o_move (.rd _ _) rfl) ?_
                    refine RG.opg1 _ _ _ _ _ rfl rfl rfl rfl rfl (fun hb => o_len_rd (gdT hb) Try.underlying24) ?_
                    refine RG.opg1 _ _ _ _ _ rfl rfl rfl rfl rfl (fun hb => o_ltI (gdT hb) (gdT hb)) ?_
                    refine RG.op _ _ rfl rfl (o_and _ _ rfl rfl rfl) ?_
                    refine RG.nil (h39_ _ ?_)
                    refine WC.cond _ rfl (fun c27 => ?_) (fun c27 => ?_)
                    ·
                      have p27 := c27
                      try simp only [CN] at p27
                      refine WC.seq fun Fh40_ h40_ => ?_
                      refine WC.region ?_
                      refine RG.op _ _ rfl rfl (o_assign (.v _) rfl) ?_
                      refine RG.op _ _ rfl rfl (o_assign (.v _) rfl) ?_
                      refine RG.nil (h40_ _ ?_)
                      refine WC.ret ?_
                      exact Ends.r2 rfl (.tmp _ (.v _) rfl) (.tmp _ (.v _) rfl) .nilr (.v _) (by rw [hk4, hst, gG_rest (by rw [repI_len]; omega) (by omega)]; rfl)
                    ·
                      have p27 := c27
                      try simp only [CN] at p27
                      refine WC.skip (Exists.intro ((p.1 + r.2.1 + s.2.1, repI p.2.1 r.1 (zagI s.1), zagI s.1)) ⟨⟨by show p.1 + r.2.1 + s.2.1 ≤ _; omega, by show (repI p.2.1 r.1 (zagI s.1)).length ≤ m; rw [repI_len]; omega, fun _ => repI_getD _ _ _ (by omega), hk4.trans hst, fun h h2 => by replace h : (repI p.2.1 r.1 (zagI s.1)).length = m := h; replace h2 : p.1 + r.2.1 + s.2.1 < b.length := h2; rw [repI_len] at h; omega, fun h => by omega⟩, by show m - (repI p.2.1 r.1 (zagI s.1)).length < _; rw [repI_len]; omega, ?_⟩)
                      exact .mk' ⟨⟨rfl, .v _⟩, ⟨ow_eq (by rw [repI_len]; omega), (by first | exact .own _ _ _ _ _ (Nat.le_refl _) | exact .ptr _ _ _ (Nat.le_refl _) | exact .omp _ _ (Nat.le_refl _))⟩, ⟨congrArg (fun j => I64 (nS (repI p.2.1 j (zagI s.1))).2.1) hj, .v _⟩, ⟨congrArg (fun j => I64 (nS (repI p.2.1 j (zagI s.1))).1) hj, .v _⟩, ⟨rfl, .v _⟩, trivial⟩ (by repeat (first | with_reducible exact same_refl _ _ | with_reducible refine same_updO (by with_unfolding_all exact rfl) ?_ | with_reducible refine same_updN ?_ | with_reducible refine same_updL (by with_unfolding_all exact rfl) ?_ | with_reducible refine same_forget (by with_unfolding_all exact rfl) ?_)) (congrArg (fun c => [c]) (tb_eq (by rw [repI_len]; omega) (congrArg (fun j => (nS (repI p.2.1 j (zagI s.1))).2.2.map I64) hj))) (by repeat (first | exact trivial | refine And.intro (Nat.le_refl _) ?_ | refine And.intro trivial ?_ | refine And.intro (by show _ ≤ _; (first | omega | (simp only [LS, nS_len] <;> omega))) ?_)) (by repeat (first | exact trivial | refine And.intro (one_ok (.own _ _ _ _ _ (Nat.le_refl _))) ?_ | refine And.intro (okp (by repeat (first | exact pu_bytes _ | exact pu_nil | exact pu_vs rfl | exact pu_map (fun _ => .v _) _ | exact pu_vals _ | refine pu_app ?_ ?_ | refine pu_cons (by exact pu_of rfl) ?_))) ?_))
      ·
        have p6 := c6
        try simp only [CN] at p6
        have hen : p.2.1.length = m := by omega
        refine WC.exit (h6_ _ ?_)
        refine WC.seq fun Fh41_ h41_ => ?_
        refine WC.seq fun Fh42_ h42_ => ?_
        refine WC.region ?_
        refine RG.op _ _ rfl rfl (o_move (.v _) rfl) ?_
        refine RG.op _ _ rfl rfl (o_eqI rfl rfl) ?_
        refine RG.op _ _ rfl rfl (o_move (.v _) rfl) ?_
        refine RG.opg1 _ _ _ _ _ rfl rfl rfl rfl rfl (fun hb => o_move (.rd _ _) rfl) ?_
        refine RG.opg1 _ _ _ _ _ rfl rfl rfl rfl rfl (fun hb => o_len_rd (gdT hb) Try.underlying24) ?_
        refine RG.opg1 _ _ _ _ _ rfl rfl rfl rfl rfl (fun hb => o_gtI (gdT hb) rfl) ?_
        refine RG.op _ _ rfl rfl (o_and _ _ rfl rfl rfl) ?_
        refine RG.nil (h42_ _ ?_)
        refine WC.cond _ rfl (fun c29 => ?_) (fun c29 => ?_)
        ·
          have p29 := c29
          try simp only [CN] at p29
          refine WC.seq fun Fh43_ h43_ => ?_
          refine WC.region ?_
          refine RG.op _ _ rfl rfl (o_assign (.v _) rfl) ?_
          refine RG.op _ _ rfl rfl (o_assign (.v _) rfl) ?_
          refine RG.nil (h43_ _ ?_)
          refine WC.ret ?_
          exact Ends.r2 rfl (.tmp _ (.v _) rfl) (.tmp _ (.v _) rfl) .nilr (.v _) (by rw [hk4, gG_rest (by omega) (by omega)]; rfl)
        ·
          have p29 := c29
          try simp only [CN] at p29
          refine WC.skip (h41_ _ ?_)
          refine WC.seq fun Fh44_ h44_ => ?_
          refine WC.region ?_
          refine RG.op _ _ rfl rfl (o_move (.own _ _ _ _ _) rfl) ?_
          refine RG.op _ _ rfl rfl (o_assign (.own _ _ _ _ _) rfl) ?_
          refine RG.op _ _ rfl rfl (o_assign (.v _) rfl) ?_
          refine RG.nil (h44_ _ ?_)
          refine WC.ret ?_
          exact Ends.r2 rfl (.tmp _ (.own _ _ _ _ _) rfl) (.tmp _ (.v _) rfl) (.tb rfl (by repeat (first | exact pu_bytes _ | exact pu_nil | exact pu_vs rfl | exact pu_map (fun _ => .v _) _ | exact pu_vals _ | refine pu_app ?_ ?_ | refine pu_cons (by exact pu_of rfl) ?_))) (.v _) (by rw [hk4, gG_end (by omega) (fun h => by have := hk5 hen h; have := hk6 this; omega)]; exact congrArg (fun c => D.tup [c, I64 0]) (rd_eq (nS_len _).symm rfl))
end Go.Proofs.Ytpdjcfhmdeeikaa

namespace Go.Proofs.Ytpdjcfhmdeeikaa
open Go.RowKit Go.DL

set_option maxHeartbeats 4000000 in
theorem iarg_c (b : List UInt8) (n : Int) (hn : n < 0 ∨ 65536 < n) : Fun Try.prog 53 [rdB b, I64 n] (· = VI ([], 1)) := by
  refine Fun.of Try.func53 rfl (Nat.le_of_ble_eq_true rfl) fun C => ?_
  refine WC.seq fun Fh1_ h1_ => ?_
  refine WC.region ?_
  refine RG.op _ _ rfl rfl (o_assign (.v _) rfl) ?_
  refine RG.op _ _ rfl rfl (o_assign (.v _) rfl) ?_
  refine RG.nil (h1_ _ ?_)
  refine WC.seq fun Fh2_ h2_ => ?_
  refine WC.seq fun Fh3_ h3_ => ?_
  refine WC.region ?_
  refine RG.op _ _ rfl rfl (o_move (.v _) rfl) ?_
  refine RG.op _ _ rfl rfl (o_ltI rfl rfl) ?_
  refine RG.op _ _ rfl rfl (o_move (.v _) rfl) ?_
  refine RG.opg1 _ _ _ _ _ rfl rfl rfl rfl rfl (fun hb => o_move (.v _) rfl) ?_
  refine RG.opg1 _ _ _ _ _ rfl rfl rfl rfl rfl (fun hb => o_gtI (gdT hb) rfl) ?_
  refine RG.op _ _ rfl rfl (o_or _ _ rfl rfl rfl) ?_
  refine RG.nil (h3_ _ ?_)
  refine WC.cond _ rfl (fun c1 => ?_) (fun c1 => ?_)
  ·
    have p1 := c1
    try simp only [CN] at p1
    refine WC.seq fun Fh4_ h4_ => ?_
    refine WC.region ?_
    refine RG.op _ _ rfl rfl (o_assign (.v _) rfl) ?_
    refine RG.op _ _ rfl rfl (o_assign (.v _) rfl) ?_
    refine RG.nil (h4_ _ ?_)
    refine WC.ret ?_
    exact Ends.r2 rfl (.tmp _ (.v _) rfl) (.tmp _ (.v _) rfl) .nilr (.v _) (rfl)
  ·
    have p1 := c1
    try simp only [CN] at p1
    exfalso; omega
theorem geti_c (b : List UInt8) (n : Int) (hb : b.length ≤ 10995116277760) : Fun Try.prog 53 [rdB b, I64 n] (· = VI (getI5 b n)) := by
  unfold getI5
  split
  · rename_i h; exact iarg_c b n h
  · have h := iget_c b n.toNat hb (by omega)
    rwa [show ((n.toNat : Nat) : Int) = n by omega] at h
/-! ### Changes and numbers -/
def chI : List Int → Int → Int → List Int
  | [], _, _ => []
  | v :: l, la, st => wrapI (wrapI v la) st :: chI l v (wrapI v la)
theorem runsF_is : ∀ (l : List Int) (la st : Int) (n : Nat) (c : Int), runsF l la st n c = runsG (chI l la st) n c
  | [], _, _, n, c => rfl
  | v :: l, la, st, n, c => by
    rw [runsF, chI, runsG, runsF_is l, runsF_is l]
abbrev in64 (x : Int) : Prop := -9223372036854775808 ≤ x ∧ x ≤ 9223372036854775807
theorem sgn_id {x : Int} (h : in64 x) : sgn (x % 18446744073709551616).toNat = x := by unfold sgn; split <;> omega
theorem sgn_eq {x y : Int} (h : in64 x) (e : y % 18446744073709551616 = x % 18446744073709551616) : sgn (y % 18446744073709551616).toNat = x := by rw [e]; exact sgn_id h
theorem add_mod (a b : Int) : addI a b % 18446744073709551616 = (a + b) % 18446744073709551616 := by unfold addI; rw [sgn_mod (by omega)]; omega
theorem add_in (a b : Int) : in64 (addI a b) := by unfold addI; exact sgn_rng (by omega)
theorem wrap_add {a b : Int} (h : in64 b) : wrapI (addI a b) a = b := by
  have h1 := add_mod a b
  exact sgn_eq h (by omega)
abbrev nF (q : Int × Int × List Int) (d : Int) : Int × Int × List Int := (addI q.1 d, addI q.2.1 (addI q.1 d), q.2.2 ++ [addI q.2.1 (addI q.1 d)])
theorem nS_is (c : List Int) : nS c = c.foldl nF (0, 0, []) := rfl
/-- The changes of the numbers of changes are these changes. -/
theorem ch_fold : ∀ (c : List Int) (la st : Int) (out : List Int), (∀ x ∈ c, in64 x) → ∃ l, (c.foldl nF (st, la, out)).2.2 = out ++ l ∧ chI l la st = c ∧ ∀ x ∈ l, in64 x
  | [], _, _, out, _ => ⟨[], (List.append_nil out).symm, rfl, fun _ h => by simp at h⟩
  | d :: c, la, st, out, h => by
    obtain ⟨l, h1, h2, h3⟩ := ch_fold c (addI la (addI st d)) (addI st d) (out ++ [addI la (addI st d)]) fun x hx => h x (by simp [hx])
    have e1 : wrapI (addI la (addI st d)) la = addI st d := wrap_add (add_in _ _)
    refine ⟨addI la (addI st d) :: l, ?_, ?_, ?_⟩
    · rw [List.foldl_cons, h1]; simp
    · rw [chI, e1, wrap_add (h d (by simp)), h2]
    · intro x hx
      rcases List.mem_cons.1 hx with rfl | hx
      · exact add_in _ _
      · exact h3 x hx
theorem ch_nS {c : List Int} (h : ∀ x ∈ c, in64 x) : chI (nS c).2.2 0 0 = c ∧ ∀ x ∈ (nS c).2.2, in64 x := by
  obtain ⟨l, h1, h2, h3⟩ := ch_fold c 0 0 [] h
  have e : (nS c).2.2 = l := by rw [nS_is, h1]; rfl
  rw [e]; exact ⟨h2, h3⟩
/-! ### Runs -/
theorem runsG_run : ∀ (m : Nat) (r : List Int) (n : Nat) (d : Int), runsG (List.replicate m d ++ r) n d = runsG r (n + m) d
  | 0, r, n, d => rfl
  | m + 1, r, n, d => by
    rw [List.replicate_succ, List.cons_append, runsG, if_neg (fun h => h.2 rfl), runsG_run m r (n + 1) d]
    congr 1; omega
theorem runsG_cons (d : Int) (r : List Int) (n : Nat) (c : Int) : runsG (d :: r) n c = if 0 < n ∧ ¬ d = c then (n, c) :: runsG r 1 d else runsG r (n + 1) d := rfl
theorem runsG_end (n : Nat) (c : Int) : runsG [] n c = if 0 < n then [(n, c)] else [] := rfl
/-- A run behind others. -/
theorem runsG_snoc {m : Nat} (hm : 1 ≤ m) (d : Int) : ∀ (r : List Int) (n : Nat) (c : Int), (∀ x, (List.replicate n c ++ r).getLast? = some x → x ≠ d) → runsG (r ++ List.replicate m d) n c = runsG r n c ++ [(m, d)]
  | [], n, c, h => by
    obtain ⟨k, rfl⟩ : ∃ k, m = k + 1 := ⟨m - 1, by omega⟩
    rw [List.nil_append, List.replicate_succ, runsG_cons, runsG_end]
    have hr : ∀ n, runsG (List.replicate k d) n d = runsG [] (n + k) d := fun n => by have := runsG_run k [] n d; rwa [List.append_nil] at this
    rcases Nat.eq_zero_or_pos n with h0 | h0
    · subst h0
      rw [if_neg (fun h => Nat.lt_irrefl _ h.1), hr, runsG_end, if_pos (by omega), if_neg (Nat.lt_irrefl _)]
      show [_] = [_]
      rw [show 0 + 1 + k = k + 1 by omega]
    · have hc : ¬ c = d := fun e => by
        refine h c ?_ e
        obtain ⟨j, rfl⟩ : ∃ j, n = j + 1 := ⟨n - 1, by omega⟩
        rw [List.append_nil, List.replicate_succ']; simp
      rw [if_pos ⟨h0, fun e => hc e.symm⟩, hr, runsG_end, if_pos (by omega), if_pos h0]
      show [_, _] = [_, _]
      rw [show 1 + k = k + 1 by omega]
  | x :: r, n, c, h => by
    have hx : ∀ k, (∀ y, (List.replicate (k + 1) x ++ r).getLast? = some y → y ≠ d) := fun k y hy => by
      refine h y ?_
      rw [← hy, List.replicate_succ', List.append_assoc]
      simp [List.getLast?_append, List.getLast?_cons]
    rw [List.cons_append, runsG_cons, runsG_cons]
    split
    · rw [runsG_snoc hm d r 1 x (hx 0)]; rfl
    · rw [runsG_snoc hm d r (n + 1) x (hx n)]
end Go.Proofs.Ytpdjcfhmdeeikaa
namespace Go.Proofs.Ytpdjcfhmdeeikaa
open Go.RowKit Go.DL

def z0 : Val := ⟨0, 0, []⟩
theorem gv_at {l : List Val} {i : Nat} (h : i < l.length) : l[i] = l.getD i z0 := by simp [List.getD, h]
def tyB (t : UInt8) : Bool := decide (t = 1) || (decide (t = 2) || decide (t = 3))
theorem tyB_cases {t : UInt8} (h : tyB t = true) : t = 1 ∨ t = 2 ∨ t = 3 := by simpa [tyB] using h
def fv (n : Nat) : Value := .func (.func n) #[] #[]
def lks : List Value := [.int .u8 1, .int .u8 2, .int .u8 3]
def lcs : List D := [.agg [.v (fv 35), .v (fv 36)], .agg [.v (fv 37), .v (fv 38)], .agg [.v (fv 39), .v (fv 40)]]
theorem pu_lcs : ∀ c ∈ lcs, Pure' c := pu_cons (.agg _ (pu_vs rfl)) (pu_cons (.agg _ (pu_vs rfl)) (pu_cons (.agg _ (pu_vs rfl)) pu_nil))
set_option maxHeartbeats 4000000 in
theorem lay_c : Fun Try.prog 23 [] (· = .mp lks lcs) := by
  refine Fun.of Try.func23 rfl (Nat.le_of_ble_eq_true rfl) fun C => ?_
  refine WC.seq fun Fh1_ h1_ => ?_
  refine WC.region ?_
  refine RG.op _ _ rfl rfl (o_assign (.v _) rfl) ?_
  refine RG.nil (h1_ _ ?_)
  refine WC.seq fun Fh2_ h2_ => ?_
  refine WC.region ?_
  refine RG.op _ _ rfl rfl (o_makeMap trivial) ?_
  refine RG.op _ _ rfl rfl (o_build (cs := [(.v _), (.v _)]) Try.underlying51 Ty.inf51 (Ty.pl51 Try.underlying51) rfl) ?_
  refine RG.op _ _ rfl rfl (o_insert (d := (.agg [_, _])) rfl rfl rfl Try.underlying53 Try.underlying5 rfl rfl rfl rfl) ?_
  refine RG.op _ _ rfl rfl (o_build (cs := [(.v _), (.v _)]) Try.underlying51 Ty.inf51 (Ty.pl51 Try.underlying51) rfl) ?_
  refine RG.op _ _ rfl rfl (o_insert (d := (.agg [_, _])) rfl rfl rfl Try.underlying53 Try.underlying5 rfl rfl rfl rfl) ?_
  refine RG.op _ _ rfl rfl (o_build (cs := [(.v _), (.v _)]) Try.underlying51 Ty.inf51 (Ty.pl51 Try.underlying51) rfl) ?_
  refine RG.op _ _ rfl rfl (o_insert (d := (.agg [_, _])) rfl rfl rfl Try.underlying53 Try.underlying5 rfl rfl rfl rfl) ?_
  refine RG.op _ _ rfl rfl (o_move (.omp _ _) rfl) ?_
  refine RG.op _ _ rfl rfl (o_assign (.omp _ _) rfl) ?_
  refine RG.nil (h2_ _ ?_)
  refine WC.ret ?_
  exact Ends.r1 rfl (.tmp _ (.omp _ _) rfl) (Frz.map lks lcs rfl rfl rfl rfl pu_lcs) (rfl)
def lpv (c : UInt8) : Value := if c = 1 then fv 35 else if c = 2 then fv 37 else if c = 3 then fv 39 else .nilFunc
def lgv (c : UInt8) : Value := if c = 1 then fv 36 else if c = 2 then fv 38 else if c = 3 then fv 40 else .nilFunc
theorem lv_one (c : UInt8) : ([D.v (lpv c), D.v (lgv c)].all oneD) = true := by
  unfold lpv lgv
  by_cases h1 : c = 1
  · rw [if_pos h1, if_pos h1]; rfl
  · rw [if_neg h1, if_neg h1]
    by_cases h2 : c = 2
    · rw [if_pos h2, if_pos h2]; rfl
    · rw [if_neg h2, if_neg h2]
      by_cases h3 : c = 3
      · rw [if_pos h3, if_pos h3]; rfl
      · rw [if_neg h3, if_neg h3]; rfl
section
variable {C : Ctx} {env : Nat → D} {H : Heap} {dst : Option Nat} {ty : TypeId} {pos : String} {after : Array Edge} {gu : Option (Nat × Bool)} {X Y : Operand}
theorem lay_miss {c : UInt8} (h1 : c ≠ 1) (h2 : c ≠ 2) (h3 : c ≠ 3) : kFind (.int .u8) (.int .u8 (c.toNat : Int)) lks 0 = some none := by
  have e : ∀ n : UInt8, c ≠ n → ((c.toNat : Int) == (n.toNat : Int)) = false := fun n hn => beq_false_of_ne fun he => hn (UInt8.toNat_inj.1 (Int.ofNat_inj.1 he))
  have a1 : ((c.toNat : Int) == 1) = false := e 1 h1
  have a2 : ((c.toNat : Int) == 2) = false := e 2 h2
  have a3 : ((c.toNat : Int) == 3) = false := e 3 h3
  unfold lks
  simp [kFind, Instr.sameNow, a1, a2, a3]
theorem layLook_c {c : UInt8} (hx : ev env X = .mp lks lcs) (hy : ev env Y = B8 c) : OpD Try.prog C ⟨dst, .lookup 53 X Y true, ty, pos, after, gu⟩ env H (.tup [.agg [.v (lpv c), .v (lgv c)], Bo (tyB c)]) H := by
  by_cases h1 : c = 1
  · subst h1; exact o_lookup_hit 0 hx hy Try.underlying53 Try.underlying5 rfl rfl rfl
  by_cases h2 : c = 2
  · subst h2; exact o_lookup_hit 1 hx hy Try.underlying53 Try.underlying5 rfl rfl rfl
  by_cases h3 : c = 3
  · subst h3; exact o_lookup_hit 2 hx hy Try.underlying53 Try.underlying5 rfl rfl rfl
  have hm := miss_sub (o_lookup_miss (P := Try.prog) (C := C) (env := env) (H := H) (dst := dst) (ty := ty) (pos := pos) (after := after) (gu := gu) (ok := true) hx hy Try.underlying53 Try.underlying5 rfl (z_of Ty.inf51) (lay_miss h1 h2 h3))
  have e1 : lpv c = .nilFunc := by unfold lpv; rw [if_neg h1, if_neg h2, if_neg h3]
  have e2 : lgv c = .nilFunc := by unfold lgv; rw [if_neg h1, if_neg h2, if_neg h3]
  have e3 : tyB c = false := by unfold tyB; rw [decide_eq_false h1, decide_eq_false h2, decide_eq_false h3]; rfl
  rw [e1, e2, e3]
  exact hm
end
theorem fill_null {acc : List Val} {k n : Nat} (h : k < n) : acc ++ List.replicate (n - k) z0 = (acc ++ [z0]) ++ List.replicate (n - (k + 1)) z0 := by
  rw [show n - k = (n - (k + 1)) + 1 by omega, List.replicate_succ]; simp
theorem flen (l : List Val) : (l.flatMap vc).length = l.length * 3 := flatMap_len vc_len l
theorem fill_val {acc : List Val} {k n : Nat} (h : k < n) (hl : acc.length = k) (v : Val) : spl ((acc ++ List.replicate (n - k) z0).flatMap vc) (0 + k * 3) (vc v) = ((acc ++ [v]) ++ List.replicate (n - (k + 1)) z0).flatMap vc := by
  rw [fill_null h]
  simp only [List.flatMap_append, List.flatMap_cons, List.flatMap_nil, List.append_nil]
  exact spl_mid (by rw [flen, hl]; omega) rfl
theorem zs_vals {zv : Value} (hz : zv.cells.toList = [.int .u8 0, .int .i64 0, .string (strB [])]) : ∀ n : Nat, (zeros zv (n * 3) 3).map D.v = (List.replicate n z0).flatMap vc
  | 0 => by simp [zeros]
  | n + 1 => by
    have ih := zs_vals hz n
    unfold zeros at *
    rw [hz] at *
    rw [show (n + 1) * 3 = n * 3 + 1 + 1 + 1 by omega, List.range_succ, List.range_succ, List.range_succ, List.replicate_succ', List.flatMap_append, ← ih]
    simp only [List.map_append, List.map_cons, List.map_nil, List.append_assoc]
    rw [show n * 3 % 3 = 0 by omega, show (n * 3 + 1) % 3 = 1 by omega, show (n * 3 + 1 + 1) % 3 = 2 by omega]
    rfl
theorem fillK {pre : List Val} {k n : Nat} (h : k < n) (hl : pre.length = k) (x : UInt8) : spl ((pre ++ List.replicate (n - k) z0).flatMap vc) (0 + k * 3 + 0) [B8 x] = ((pre ++ [(⟨x, 0, []⟩ : Val)]) ++ List.replicate (n - (k + 1)) z0).flatMap vc := by
  rw [fill_null h]
  simp only [List.flatMap_append, List.flatMap_cons, List.flatMap_nil, List.append_nil]
  have e : pre.flatMap vc ++ vc z0 ++ (List.replicate (n - (k + 1)) z0).flatMap vc = pre.flatMap vc ++ [B8 0] ++ ([I64 0, S []] ++ (List.replicate (n - (k + 1)) z0).flatMap vc) := by simp [vc, z0]
  rw [e, spl_mid (B := [B8 0]) (E := [B8 x]) (by rw [flen, hl]; omega) rfl]; simp [vc]
theorem fillI {pre : List Val} {k n : Nat} {x : UInt8} (hl : pre.length = k) (y : Int) : spl (((pre ++ [(⟨x, 0, []⟩ : Val)]) ++ List.replicate (n - (k + 1)) z0).flatMap vc) (0 + k * 3 + 1) [I64 y] = ((pre ++ [(⟨x, y, []⟩ : Val)]) ++ List.replicate (n - (k + 1)) z0).flatMap vc := by
  simp only [List.flatMap_append, List.flatMap_cons, List.flatMap_nil, List.append_nil]
  have e : pre.flatMap vc ++ vc (⟨x, 0, []⟩ : Val) ++ (List.replicate (n - (k + 1)) z0).flatMap vc = (pre.flatMap vc ++ [B8 x]) ++ [I64 0] ++ ([S []] ++ (List.replicate (n - (k + 1)) z0).flatMap vc) := by simp [vc]
  rw [e, spl_mid (B := [I64 0]) (E := [I64 y]) (by rw [List.length_append, flen, hl]; show 0 + k * 3 + 1 = k * 3 + 1; omega) rfl]; simp [vc]
abbrev VL (r : List Val × Nat) : D := .tup [rdV r.1, I64 r.2]
def trM (l : List Val) : List Bool := l.map fun v => decide (v.i = 1)
def nuM (l : List Val) : List Int := l.map fun v => v.i
theorem trM_len (l : List Val) : (trM l).length = l.length := List.length_map _
theorem nuM_len (l : List Val) : (nuM l).length = l.length := List.length_map _
theorem trM_take {l : List Val} {k : Nat} (h : k < l.length) : trM (l.take (k + 1)) = trM (l.take k) ++ [decide (l[k].i = 1)] := by rw [List.take_succ_eq_append_getElem h]; unfold trM; rw [List.map_append]; rfl
theorem nuM_take {l : List Val} {k : Nat} (h : k < l.length) : nuM (l.take (k + 1)) = nuM (l.take k) ++ [l[k].i] := by rw [List.take_succ_eq_append_getElem h]; unfold nuM; rw [List.map_append]; rfl
set_option maxHeartbeats 4000000 in
theorem pbools_c (l : List Val) (hl : l.length ≤ 1099511627775) : Fun Try.prog 35 [rdV l] (· = rdB (bitsM (trM l))) := by
  have htl := trM_len l
  refine Fun.of Try.func35 rfl (Nat.le_of_ble_eq_true rfl) fun C => ?_
  refine WC.seq fun Fh1_ h1_ => ?_
  refine WC.region ?_
  refine RG.op _ _ rfl rfl (o_assign (.v _) rfl) ?_
  refine RG.nil (h1_ _ ?_)
  refine WC.seq fun Fh2_ h2_ => ?_
  refine WC.region ?_
  refine RG.op _ _ rfl rfl (o_move (.rd _ _) rfl) ?_
  refine RG.op _ _ rfl rfl (o_len_rd rfl Try.underlying22) ?_
  refine RG.op _ _ rfl rfl (o_makeT l.length l.length l.length rfl rfl Try.underlying55 Ty.inf4 rfl rfl (by first | omega | exact ubyte _ | (simp only [LS] <;> omega)) (by first | omega | exact ubyte _ | (simp only [LS] <;> omega)) (by first | omega | exact ubyte _ | (simp only [LS] <;> omega)) (by first | omega | exact ubyte _ | (simp only [LS] <;> omega)) (by first | omega | exact ubyte _ | (simp only [LS] <;> omega))) ?_
  refine RG.op _ _ rfl rfl (o_assign (.own _ _ _ _ _) rfl) ?_
  refine RG.nil (h2_ _ ?_)
  refine WC.seq fun Fh3_ h3_ => ?_
  refine WC.seq fun Fh4_ h4_ => ?_
  refine WC.region ?_
  refine RG.op _ _ rfl rfl (o_move (.rd _ _) rfl) ?_
  refine RG.op _ _ rfl rfl (o_len_rd rfl Try.underlying22) ?_
  refine RG.op _ _ rfl rfl (o_move (.v _) rfl) ?_
  refine RG.nil (h4_ _ ?_)
  refine WC.block ?_
  refine WC.loopU [4, 5, 11, 12, 13, 14, 15, 16, 17, 18, 19, 20, 21, 22] (fun (k : Nat) => [(11, I64 ((k : Nat) : Int))]) (fun (k : Nat) => [(0, tb 4 l.length ((trM (l.take k) ++ List.replicate (l.length - k) false).map Bo))]) (fun (k : Nat) => k ≤ l.length) (fun (k : Nat) => l.length - k) 0 (by first | omega | exact ubyte _ | (simp only [LS] <;> omega)) ?lpa5_ ?lpb6_
  case lpa5_ =>
    exact .mk' ⟨⟨rfl, .v _⟩, trivial⟩ (same_refl _ _) (congrArg (fun c => [c]) (tb_eq rfl ((zs1 rfl l.length).trans (by simp [trM])))) (by repeat (first | exact trivial | refine And.intro (Nat.le_refl _) ?_ | refine And.intro trivial ?_ | refine And.intro (by show _ ≤ _; (first | omega | (simp only [LS] <;> omega))) ?_)) (by repeat (first | exact trivial | refine And.intro (one_ok (.own _ _ _ _ _ (Nat.le_refl _))) ?_ | refine And.intro (okp (by repeat (first | exact pu_bytes _ | exact pu_nil | exact pu_vs rfl | exact pu_map (fun _ => .v _) _ | exact pu_vals _ | refine pu_app ?_ ?_ | refine pu_cons (by exact pu_of rfl) ?_))) ?_))
  case lpb6_ =>
    rintro k hI
    have hml := trM_len (l.take k)
    rw [List.length_take] at hml
    refine WC.seq fun Fh7_ h7_ => ?_
    refine WC.region ?_
    refine RG.op _ _ rfl rfl (o_ltI rfl rfl) ?_
    refine RG.nil (h7_ _ ?_)
    refine WC.seq fun Fh8_ h8_ => ?_
    refine WC.cond _ rfl (fun c3 => ?_) (fun c3 => ?_)
    ·
      have p3 := c3
      try simp only [CN] at p3
      have hkl : k < l.length := by omega
      refine WC.skip (h8_ _ ?_)
      refine WC.seq fun Fh9_ h9_ => ?_
      refine WC.block ?_
      refine WC.seq fun Fh10_ h10_ => ?_
      refine WC.region ?_
      refine RG.op _ _ rfl rfl (o_move (.v _) rfl) ?_
      refine RG.op _ _ rfl rfl (o_ixn_L k vc_len rfl rfl rfl Try.underlying22 (sz_of Ty.inf36) (by first | omega | exact ubyte _ | (simp only [LS] <;> omega)) (by first | omega | exact ubyte _ | (simp only [LS] <;> omega))) ?_
      refine RG.op _ _ rfl rfl (o_load_adr_L (xs := [_, _, _]) rfl Try.underlying36 rfl (sz_of Ty.inf36) rfl) ?_
      refine RG.op _ _ rfl rfl (o_alloc (z_of Ty.inf36) rfl) ?_
      refine RG.op _ _ rfl rfl (o_assign (.v _) rfl) ?_
      refine RG.op _ _ rfl rfl (o_store (d := (.agg [_, _, _])) rfl rfl rfl rfl (sz_of Ty.inf36) (Nat.le_of_ble_eq_true rfl) rfl) ?_
      refine RG.nil (h10_ _ ?_)
      refine WC.region ?_
      refine RG.op _ _ rfl rfl (o_move (.own _ _ _ _ _) rfl) ?_
      refine RG.op _ _ rfl rfl (o_move (.v _) rfl) ?_
      refine RG.op _ _ rfl rfl (o_fld_ptr rfl Try.underlying36 rfl (sz_of Ty.inf2) (by decide)) ?_
      refine RG.op _ _ rfl rfl (o_load_ptr rfl Try.underlying2 rfl rfl rfl rfl) ?_
      refine RG.op _ _ rfl rfl (o_eqI rfl rfl) ?_
      refine RG.op _ _ rfl rfl (o_ixn_own k rfl rfl Try.underlying55 (sz_of Ty.inf4) (by omega) (by omega)) ?_
      refine RG.op _ _ rfl rfl (o_store (d := .v _) rfl rfl rfl rfl (sz_of Ty.inf4) (by show 0 + k * 1 + 1 ≤ (List.map Bo _).length; rw [List.length_map, List.length_append, List.length_replicate]; omega) rfl) ?_
      refine RG.nil (h9_ _ ?_)
      refine WC.region ?_
      refine RG.op _ _ rfl rfl (o_add rfl rfl (by first | omega | exact ubyte _ | (simp only [LS] <;> omega)) (by first | omega | exact ubyte _ | (simp only [LS] <;> omega))) ?_
      refine RG.op _ _ rfl rfl (o_move (.v _) rfl) ?_
      refine RG.nil (Exists.intro (k + 1) ⟨by first | omega | (simp only [LS] <;> omega), by first | omega | (simp only [LS] <;> omega), ?_⟩)
      exact .mk' ⟨⟨rfl, .v _⟩, trivial⟩ (by repeat (first | with_reducible exact same_refl _ _ | with_reducible refine same_updO (by with_unfolding_all exact rfl) ?_ | with_reducible refine same_updN ?_ | with_reducible refine same_updL (by with_unfolding_all exact rfl) ?_ | with_reducible refine same_forget (by with_unfolding_all exact rfl) ?_)) (congrArg (fun c => [c]) (tb_eq rfl (by rw [trM_take hkl]; exact fill1 hkl (by omega)))) (by repeat (first | exact trivial | refine And.intro (Nat.le_refl _) ?_ | refine And.intro trivial ?_ | refine And.intro (by show _ ≤ _; (first | omega | (simp only [LS] <;> omega))) ?_)) (by repeat (first | exact trivial | refine And.intro (one_ok (.own _ _ _ _ _ (Nat.le_refl _))) ?_ | refine And.intro (okp (by repeat (first | exact pu_bytes _ | exact pu_nil | exact pu_vs rfl | exact pu_map (fun _ => .v _) _ | exact pu_vals _ | refine pu_app ?_ ?_ | refine pu_cons (by exact pu_of rfl) ?_))) ?_))
    ·
      have p3 := c3
      try simp only [CN] at p3
      refine WC.exit (h3_ _ ?_)
      refine WC.seq fun Fh11_ h11_ => ?_
      have hke : k = l.length := by omega
      subst hke
      refine WC.frz 0 _ [(3, rdO (trM l))] rfl (by repeat (first | exact pu_bytes _ | exact pu_nil | exact pu_vs rfl | exact pu_map (fun _ => .v _) _ | exact pu_vals _ | refine pu_app ?_ ?_ | refine pu_cons (by exact pu_of rfl) ?_)) ⟨.rowE rfl (by first | rfl | omega | simp) (by first | rfl | simp [bytesD]), trivial⟩ ?_
      refine WC.region ?_
      refine RG.op _ _ rfl rfl (o_move (.rd _ _) rfl) ?_
      refine RG.op _ _ rfl rfl (o_call Ty.cal25 (pbits_c _ (by first | omega | exact ubyte _ | (simp only [LS] <;> omega))) ⟨.inl rfl, trivial⟩ (by exact pua rfl)) ?_
      refine RG.op _ _ rfl rfl (o_assign (.rd _ _) rfl) ?_
      refine RG.nil (h11_ _ ?_)
      refine WC.ret ?_
      exact Ends.r1 rfl (.tmp _ (.rd _ _) rfl) (.rd _ _) (rfl)
set_option maxHeartbeats 4000000 in
theorem pints_c (l : List Val) (hl : l.length ≤ 1099511627775) : Fun Try.prog 37 [rdV l] (· = rdB (putI5 (nuM l))) := by
  have htl := nuM_len l
  refine Fun.of Try.func37 rfl (Nat.le_of_ble_eq_true rfl) fun C => ?_
  refine WC.seq fun Fh1_ h1_ => ?_
  refine WC.region ?_
  refine RG.op _ _ rfl rfl (o_assign (.v _) rfl) ?_
  refine RG.nil (h1_ _ ?_)
  refine WC.seq fun Fh2_ h2_ => ?_
  refine WC.region ?_
  refine RG.op _ _ rfl rfl (o_move (.rd _ _) rfl) ?_
  refine RG.op _ _ rfl rfl (o_len_rd rfl Try.underlying22) ?_
  refine RG.op _ _ rfl rfl (o_makeT l.length l.length l.length rfl rfl Try.underlying58 Ty.inf2 rfl rfl (by first | omega | exact ubyte _ | (simp only [LS] <;> omega)) (by first | omega | exact ubyte _ | (simp only [LS] <;> omega)) (by first | omega | exact ubyte _ | (simp only [LS] <;> omega)) (by first | omega | exact ubyte _ | (simp only [LS] <;> omega)) (by first | omega | exact ubyte _ | (simp only [LS] <;> omega))) ?_
  refine RG.op _ _ rfl rfl (o_assign (.own _ _ _ _ _) rfl) ?_
  refine RG.nil (h2_ _ ?_)
  refine WC.seq fun Fh3_ h3_ => ?_
  refine WC.seq fun Fh4_ h4_ => ?_
  refine WC.region ?_
  refine RG.op _ _ rfl rfl (o_move (.rd _ _) rfl) ?_
  refine RG.op _ _ rfl rfl (o_len_rd rfl Try.underlying22) ?_
  refine RG.op _ _ rfl rfl (o_move (.v _) rfl) ?_
  refine RG.nil (h4_ _ ?_)
  refine WC.block ?_
  refine WC.loopU [4, 5, 11, 12, 13, 14, 15, 16, 17, 18, 19, 20, 21] (fun (k : Nat) => [(11, I64 ((k : Nat) : Int))]) (fun (k : Nat) => [(0, tb 2 l.length ((nuM (l.take k) ++ List.replicate (l.length - k) 0).map I64))]) (fun (k : Nat) => k ≤ l.length) (fun (k : Nat) => l.length - k) 0 (by first | omega | exact ubyte _ | (simp only [LS] <;> omega)) ?lpa5_ ?lpb6_
  case lpa5_ =>
    exact .mk' ⟨⟨rfl, .v _⟩, trivial⟩ (same_refl _ _) (congrArg (fun c => [c]) (tb_eq rfl ((zs1 rfl l.length).trans (by simp [nuM])))) (by repeat (first | exact trivial | refine And.intro (Nat.le_refl _) ?_ | refine And.intro trivial ?_ | refine And.intro (by show _ ≤ _; (first | omega | (simp only [LS] <;> omega))) ?_)) (by repeat (first | exact trivial | refine And.intro (one_ok (.own _ _ _ _ _ (Nat.le_refl _))) ?_ | refine And.intro (okp (by repeat (first | exact pu_bytes _ | exact pu_nil | exact pu_vs rfl | exact pu_map (fun _ => .v _) _ | exact pu_vals _ | refine pu_app ?_ ?_ | refine pu_cons (by exact pu_of rfl) ?_))) ?_))
  case lpb6_ =>
    rintro k hI
    have hml := nuM_len (l.take k)
    rw [List.length_take] at hml
    refine WC.seq fun Fh7_ h7_ => ?_
    refine WC.region ?_
    refine RG.op _ _ rfl rfl (o_ltI rfl rfl) ?_
    refine RG.nil (h7_ _ ?_)
    refine WC.seq fun Fh8_ h8_ => ?_
    refine WC.cond _ rfl (fun c3 => ?_) (fun c3 => ?_)
    ·
      have p3 := c3
      try simp only [CN] at p3
      have hkl : k < l.length := by omega
      refine WC.skip (h8_ _ ?_)
      refine WC.seq fun Fh9_ h9_ => ?_
      refine WC.block ?_
      refine WC.seq fun Fh10_ h10_ => ?_
      refine WC.region ?_
      refine RG.op _ _ rfl rfl (o_move (.v _) rfl) ?_
      refine RG.op _ _ rfl rfl (o_ixn_L k vc_len rfl rfl rfl Try.underlying22 (sz_of Ty.inf36) (by first | omega | exact ubyte _ | (simp only [LS] <;> omega)) (by first | omega | exact ubyte _ | (simp only [LS] <;> omega))) ?_
      refine RG.op _ _ rfl rfl (o_load_adr_L (xs := [_, _, _]) rfl Try.underlying36 rfl (sz_of Ty.inf36) rfl) ?_
      refine RG.op _ _ rfl rfl (o_alloc (z_of Ty.inf36) rfl) ?_
      refine RG.op _ _ rfl rfl (o_assign (.v _) rfl) ?_
      refine RG.op _ _ rfl rfl (o_store (d := (.agg [_, _, _])) rfl rfl rfl rfl (sz_of Ty.inf36) (Nat.le_of_ble_eq_true rfl) rfl) ?_
      refine RG.nil (h10_ _ ?_)
      refine WC.region ?_
      refine RG.op _ _ rfl rfl (o_move (.own _ _ _ _ _) rfl) ?_
      refine RG.op _ _ rfl rfl (o_move (.v _) rfl) ?_
      refine RG.op _ _ rfl rfl (o_fld_ptr rfl Try.underlying36 rfl (sz_of Ty.inf2) (by decide)) ?_
      refine RG.op _ _ rfl rfl (o_load_ptr rfl Try.underlying2 rfl rfl rfl rfl) ?_
      refine RG.op _ _ rfl rfl (o_ixn_own k rfl rfl Try.underlying58 (sz_of Ty.inf2) (by omega) (by omega)) ?_
      refine RG.op _ _ rfl rfl (o_store (d := .v _) rfl rfl rfl rfl (sz_of Ty.inf2) (by show 0 + k * 1 + 1 ≤ (List.map I64 _).length; rw [List.length_map, List.length_append, List.length_replicate]; omega) rfl) ?_
      refine RG.nil (h9_ _ ?_)
      refine WC.region ?_
      refine RG.op _ _ rfl rfl (o_add rfl rfl (by first | omega | exact ubyte _ | (simp only [LS] <;> omega)) (by first | omega | exact ubyte _ | (simp only [LS] <;> omega))) ?_
      refine RG.op _ _ rfl rfl (o_move (.v _) rfl) ?_
      refine RG.nil (Exists.intro (k + 1) ⟨by first | omega | (simp only [LS] <;> omega), by first | omega | (simp only [LS] <;> omega), ?_⟩)
      exact .mk' ⟨⟨rfl, .v _⟩, trivial⟩ (by repeat (first | with_reducible exact same_refl _ _ | with_reducible refine same_updO (by with_unfolding_all exact rfl) ?_ | with_reducible refine same_updN ?_ | with_reducible refine same_updL (by with_unfolding_all exact rfl) ?_ | with_reducible refine same_forget (by with_unfolding_all exact rfl) ?_)) (congrArg (fun c => [c]) (tb_eq rfl (by rw [nuM_take hkl]; exact fill1 hkl (by omega)))) (by repeat (first | exact trivial | refine And.intro (Nat.le_refl _) ?_ | refine And.intro trivial ?_ | refine And.intro (by show _ ≤ _; (first | omega | (simp only [LS] <;> omega))) ?_)) (by repeat (first | exact trivial | refine And.intro (one_ok (.own _ _ _ _ _ (Nat.le_refl _))) ?_ | refine And.intro (okp (by repeat (first | exact pu_bytes _ | exact pu_nil | exact pu_vs rfl | exact pu_map (fun _ => .v _) _ | exact pu_vals _ | refine pu_app ?_ ?_ | refine pu_cons (by exact pu_of rfl) ?_))) ?_))
    ·
      have p3 := c3
      try simp only [CN] at p3
      refine WC.exit (h3_ _ ?_)
      refine WC.seq fun Fh11_ h11_ => ?_
      have hke : k = l.length := by omega
      subst hke
      refine WC.frz 0 _ [(3, rdI (nuM l))] rfl (by repeat (first | exact pu_bytes _ | exact pu_nil | exact pu_vs rfl | exact pu_map (fun _ => .v _) _ | exact pu_vals _ | refine pu_app ?_ ?_ | refine pu_cons (by exact pu_of rfl) ?_)) ⟨.rowE rfl (by first | rfl | omega | simp) (by first | rfl | simp [bytesD]), trivial⟩ ?_
      refine WC.region ?_
      refine RG.op _ _ rfl rfl (o_move (.rd _ _) rfl) ?_
      refine RG.op _ _ rfl rfl (o_call Ty.cal52 (iputs_c _ (by first | omega | exact ubyte _ | (simp only [LS] <;> omega))) ⟨.inl rfl, trivial⟩ (by exact pua rfl)) ?_
      refine RG.op _ _ rfl rfl (o_assign (.rd _ _) rfl) ?_
      refine RG.nil (h11_ _ ?_)
      refine WC.ret ?_
      exact Ends.r1 rfl (.tmp _ (.rd _ _) rfl) (.rd _ _) (rfl)
/-! ### Truths and numbers got -/
def vB (s : Bool) : Val := ⟨1, if s then 1 else 0, []⟩
def vI (n : Int) : Val := ⟨2, n, []⟩
def getBl (b : List UInt8) (n : Nat) : List Val × Nat := if (getB b n).2.2 = 0 then (if (getB b n).2.1 < b.length then ([], 21) else ((getB b n).1.map vB, 0)) else ([], (getB b n).2.2)
def getIl (b : List UInt8) (n : Nat) : List Val × Nat := if (getI5 b n).2 = 0 then ((nS (getI5 b n).1).2.2.map vI, 0) else ([], (getI5 b n).2)
theorem getB_len {b : List UInt8} {n : Nat} (h : (getB b n).2.2 = 0) : (getB b n).1.length = n ∧ (getB b n).2.1 ≤ b.length := by
  unfold getB at h ⊢
  split
  · rename_i e; rw [if_pos e] at h; cases h
  · rename_i e; rw [if_neg e] at h
    split
    · rename_i e; rw [if_pos e] at h; cases h
    · exact ⟨bitsOf_len b n, by show (n + 7) / 8 ≤ b.length; omega⟩
set_option maxHeartbeats 4000000 in
theorem gbools_c (b : List UInt8) (n : Nat) (hb : b.length ≤ 10995116277760) (hn : n ≤ 65536) : Fun Try.prog 36 [rdB b, I64 ((n : Nat) : Int)] (· = VL (getBl b n)) := by
  refine Fun.of Try.func36 rfl (Nat.le_of_ble_eq_true rfl) fun C => ?_
  refine WC.seq fun Fh1_ h1_ => ?_
  refine WC.region ?_
  refine RG.op _ _ rfl rfl (o_assign (.v _) rfl) ?_
  refine RG.op _ _ rfl rfl (o_assign (.v _) rfl) ?_
  refine RG.nil (h1_ _ ?_)
  refine WC.seq fun Fh2_ h2_ => ?_
  refine WC.region ?_
  refine RG.op _ _ rfl rfl (o_move (.rd _ _) rfl) ?_
  refine RG.op _ _ rfl rfl (o_move (.v _) rfl) ?_
  refine RG.op _ _ rfl rfl ((by exact o_call (ds := [rdB b, I64 (n : Nat)]) Ty.cal29 (getbits_c b n hb (by omega)) ⟨.inl rfl, .inl rfl, trivial⟩ (by exact pua rfl))) ?_
  refine RG.op _ _ rfl rfl (o_move (.tup _) rfl) ?_
  refine RG.op _ _ rfl rfl (o_extract rfl rfl) ?_
  refine RG.op _ _ rfl rfl (o_extract rfl rfl) ?_
  refine RG.op _ _ rfl rfl (o_extract rfl rfl) ?_
  refine RG.op _ _ rfl rfl (o_assign (.rd _ _) rfl) ?_
  refine RG.op _ _ rfl rfl (o_assign (.v _) rfl) ?_
  refine RG.op _ _ rfl rfl (o_assign (.v _) rfl) ?_
  refine RG.nil (h2_ _ ?_)
  refine WC.seq fun Fh3_ h3_ => ?_
  refine WC.seq fun Fh4_ h4_ => ?_
  refine WC.region ?_
  refine RG.op _ _ rfl rfl (o_move (.v _) rfl) ?_
  refine RG.op _ _ rfl rfl (o_neI rfl rfl) ?_
  refine RG.nil (h4_ _ ?_)
  refine WC.cond _ rfl (fun c2 => ?_) (fun c2 => ?_)
  ·
    have p2 := c2
    try simp only [CN] at p2
    refine WC.seq fun Fh5_ h5_ => ?_
    refine WC.region ?_
    refine RG.op _ _ rfl rfl (o_move (.v _) rfl) ?_
    refine RG.op _ _ rfl rfl (o_assign (.v _) rfl) ?_
    refine RG.op _ _ rfl rfl (o_assign (.v _) rfl) ?_
    refine RG.nil (h5_ _ ?_)
    refine WC.ret ?_
    exact Ends.r2 rfl (.tmp _ (.v _) rfl) (.tmp _ (.v _) rfl) .nilr (.v _) (by unfold getBl; rw [if_neg (by omega)]; rfl)
  ·
    have p2 := c2
    try simp only [CN] at p2
    have h0 : (getB b n).2.2 = 0 := by omega
    have hgl := getB_len h0
    have hgl1 := hgl.1
    refine WC.skip (h3_ _ ?_)
    refine WC.seq fun Fh6_ h6_ => ?_
    refine WC.seq fun Fh7_ h7_ => ?_
    refine WC.region ?_
    refine RG.op _ _ rfl rfl (o_move (.v _) rfl) ?_
    refine RG.op _ _ rfl rfl (o_move (.rd _ _) rfl) ?_
    refine RG.op _ _ rfl rfl (o_len_rd rfl Try.underlying24) ?_
    refine RG.op _ _ rfl rfl (o_ltI rfl rfl) ?_
    refine RG.nil (h7_ _ ?_)
    refine WC.cond _ rfl (fun c4 => ?_) (fun c4 => ?_)
    ·
      have p4 := c4
      try simp only [CN] at p4
      refine WC.seq fun Fh8_ h8_ => ?_
      refine WC.region ?_
      refine RG.op _ _ rfl rfl (o_assign (.v _) rfl) ?_
      refine RG.op _ _ rfl rfl (o_assign (.v _) rfl) ?_
      refine RG.nil (h8_ _ ?_)
      refine WC.ret ?_
      exact Ends.r2 rfl (.tmp _ (.v _) rfl) (.tmp _ (.v _) rfl) .nilr (.v _) (by unfold getBl; rw [if_pos h0, if_pos (by omega)]; rfl)
    ·
      have p4 := c4
      try simp only [CN] at p4
      refine WC.skip (h6_ _ ?_)
      refine WC.seq fun Fh9_ h9_ => ?_
      refine WC.region ?_
      refine RG.op _ _ rfl rfl (o_move (.v _) rfl) ?_
      refine RG.op _ _ rfl rfl (o_makeT n n n rfl rfl Try.underlying22 Ty.inf36 rfl rfl (by omega) (by omega) (by omega) (by omega) (by omega)) ?_
      refine RG.op _ _ rfl rfl (o_assign (.own _ _ _ _ _) rfl) ?_
      refine RG.nil (h9_ _ ?_)
      refine WC.seq fun Fh10_ h10_ => ?_
      refine WC.seq fun Fh11_ h11_ => ?_
      refine WC.region ?_
      refine RG.op _ _ rfl rfl (o_move (.rd _ _) rfl) ?_
      refine RG.op _ _ rfl rfl (o_len_rd rfl Try.underlying55) ?_
      refine RG.op _ _ rfl rfl (o_move (.v _) rfl) ?_
      refine RG.nil (h11_ _ ?_)
      refine WC.block ?_
      refine WC.loopU [10, 11, 30, 31, 32, 33, 34, 35, 36, 37, 38, 39, 40, 41, 42, 43, 44] (fun (k : Nat) => [(30, I64 ((k : Nat) : Int))]) (fun (k : Nat) => [(0, tb 36 n ((((getB b n).1.take k).map vB ++ List.replicate (n - k) z0).flatMap vc))]) (fun (k : Nat) => k ≤ n) (fun (k : Nat) => n - k) 0 (by first | omega | exact ubyte _ | (simp only [LS] <;> omega)) ?lpa12_ ?lpb13_
      case lpa12_ =>
        exact .mk' ⟨⟨rfl, .v _⟩, trivial⟩ (same_refl _ _) (congrArg (fun c => [c]) (tb_eq rfl (zs_vals rfl _))) (by repeat (first | exact trivial | refine And.intro (Nat.le_refl _) ?_ | refine And.intro trivial ?_ | refine And.intro (by show _ ≤ _; (first | omega | (simp only [LS] <;> omega))) ?_)) (by repeat (first | exact trivial | refine And.intro (one_ok (.own _ _ _ _ _ (Nat.le_refl _))) ?_ | refine And.intro (okp (by repeat (first | exact pu_bytes _ | exact pu_nil | exact pu_vs rfl | exact pu_map (fun _ => .v _) _ | exact pu_vals _ | refine pu_app ?_ ?_ | refine pu_cons (by exact pu_of rfl) ?_))) ?_))
      case lpb13_ =>
        rintro k hI
        refine WC.seq fun Fh14_ h14_ => ?_
        refine WC.region ?_
        refine RG.op _ _ rfl rfl (o_ltI rfl rfl) ?_
        refine RG.nil (h14_ _ ?_)
        refine WC.seq fun Fh15_ h15_ => ?_
        refine WC.cond _ rfl (fun c8 => ?_) (fun c8 => ?_)
        ·
          have p8 := c8
          try simp only [CN] at p8
          have hkn : k < n := by omega
          have hst : ((getB b n).1.take (k + 1)).map vB = ((getB b n).1.take k).map vB ++ [vB ((getB b n).1[k]'(by omega))] := by rw [List.take_succ_eq_append_getElem (by omega), List.map_append]; rfl
          have hpl : (((getB b n).1.take k).map vB).length = k := by rw [List.length_map, List.length_take]; omega
          refine WC.skip (h15_ _ ?_)
          refine WC.seq fun Fh16_ h16_ => ?_
          refine WC.block ?_
          refine WC.seq fun Fh17_ h17_ => ?_
          refine WC.region ?_
          refine RG.op _ _ rfl rfl (o_move (.v _) rfl) ?_
          refine RG.op _ _ rfl rfl (o_ixn_M k rfl rfl Try.underlying55 (sz_of Ty.inf4) (by first | omega | exact ubyte _ | (simp only [LS] <;> omega)) (by first | omega | exact ubyte _ | (simp only [LS] <;> omega))) ?_
          refine RG.op _ _ rfl rfl (o_load_adr rfl Try.underlying4 rfl rfl) ?_
          refine RG.op _ _ rfl rfl (o_assign (.v _) rfl) ?_
          refine RG.op _ _ rfl rfl (o_assign (.v _) rfl) ?_
          refine RG.nil (h17_ _ ?_)
          refine WC.seq fun Fh18_ h18_ => ?_
          refine WC.region ?_
          refine RG.op _ _ rfl rfl (o_move (.own _ _ _ _ _) rfl) ?_
          refine RG.op _ _ rfl rfl (o_move (.v _) rfl) ?_
          refine RG.op _ _ rfl rfl (o_ixn_own k rfl rfl Try.underlying22 (sz_of Ty.inf36) (by omega) (by omega)) ?_
          refine RG.op _ _ rfl rfl (o_fld_ptr rfl Try.underlying36 rfl (sz_of Ty.inf5) (by decide)) ?_
          refine RG.op _ _ rfl rfl (o_store (d := B8 1) rfl rfl rfl rfl (sz_of Ty.inf5) (by show 0 + k * 3 + 0 + 1 ≤ (List.flatMap vc _).length; rw [flen, List.length_append, List.length_map, List.length_take, List.length_replicate]; omega) rfl) ?_
          refine RG.nil (h18_ _ ?_)
          refine WC.seq fun Fh19_ h19_ => ?_
          refine WC.region ?_
          refine RG.op _ _ rfl rfl (o_move (.v _) rfl) ?_
          refine RG.nil (h19_ _ ?_)
          refine WC.cond _ rfl (fun c11 => ?_) (fun c11 => ?_)
          ·
            have p11 := c11
            try simp only [CN] at p11
            refine WC.region ?_
            refine RG.op _ _ rfl rfl (o_move (.own _ _ _ _ _) rfl) ?_
            refine RG.op _ _ rfl rfl (o_move (.v _) rfl) ?_
            refine RG.op _ _ rfl rfl (o_ixn_own k rfl rfl Try.underlying22 (sz_of Ty.inf36) (by omega) (by omega)) ?_
            refine RG.op _ _ rfl rfl (o_fld_ptr rfl Try.underlying36 rfl (sz_of Ty.inf2) (by decide)) ?_
            refine RG.op _ _ rfl rfl (o_store (d := I64 1) rfl rfl rfl rfl (sz_of Ty.inf2) (by refine Nat.le_trans ?_ (Nat.le_of_eq (congrArg List.length (fillK (n := n) hkn hpl 1)).symm); show 0 + k * 3 + 1 + 1 ≤ _; rw [flen, List.length_append, List.length_append, List.length_replicate, hpl]; simp only [List.length_singleton]; omega) rfl) ?_
            refine RG.nil (h16_ _ ?_)
            refine WC.region ?_
            refine RG.op _ _ rfl rfl (o_add rfl rfl (by first | omega | exact ubyte _ | (simp only [LS] <;> omega)) (by first | omega | exact ubyte _ | (simp only [LS] <;> omega))) ?_
            refine RG.op _ _ rfl rfl (o_move (.v _) rfl) ?_
            refine RG.nil (Exists.intro (k + 1) ⟨by first | omega | (simp only [LS] <;> omega), by first | omega | (simp only [LS] <;> omega), ?_⟩)
            exact .mk' ⟨⟨rfl, .v _⟩, trivial⟩ (by repeat (first | with_reducible exact same_refl _ _ | with_reducible refine same_updO (by with_unfolding_all exact rfl) ?_ | with_reducible refine same_updN ?_ | with_reducible refine same_updL (by with_unfolding_all exact rfl) ?_ | with_reducible refine same_forget (by with_unfolding_all exact rfl) ?_)) (congrArg (fun c => [c]) (tb_eq rfl ((congrArg (fun X => spl X (0 + k * 3 + 1) [I64 1]) (fillK hkn hpl 1)).trans ((fillI hpl 1).trans (by rw [hst, show _ = true from c11]; rfl))))) (by repeat (first | exact trivial | refine And.intro (Nat.le_refl _) ?_ | refine And.intro trivial ?_ | refine And.intro (by show _ ≤ _; (first | omega | (simp only [LS] <;> omega))) ?_)) (by repeat (first | exact trivial | refine And.intro (one_ok (.own _ _ _ _ _ (Nat.le_refl _))) ?_ | refine And.intro (okp (by repeat (first | exact pu_bytes _ | exact pu_nil | exact pu_vs rfl | exact pu_map (fun _ => .v _) _ | exact pu_vals _ | refine pu_app ?_ ?_ | refine pu_cons (by exact pu_of rfl) ?_))) ?_))
          ·
            have p11 := c11
            try simp only [CN] at p11
            refine WC.skip (h16_ _ ?_)
            refine WC.region ?_
            refine RG.op _ _ rfl rfl (o_add rfl rfl (by first | omega | exact ubyte _ | (simp only [LS] <;> omega)) (by first | omega | exact ubyte _ | (simp only [LS] <;> omega))) ?_
            refine RG.op _ _ rfl rfl (o_move (.v _) rfl) ?_
            refine RG.nil (Exists.intro (k + 1) ⟨by first | omega | (simp only [LS] <;> omega), by first | omega | (simp only [LS] <;> omega), ?_⟩)
            exact .mk' ⟨⟨rfl, .v _⟩, trivial⟩ (by repeat (first | with_reducible exact same_refl _ _ | with_reducible refine same_updO (by with_unfolding_all exact rfl) ?_ | with_reducible refine same_updN ?_ | with_reducible refine same_updL (by with_unfolding_all exact rfl) ?_ | with_reducible refine same_forget (by with_unfolding_all exact rfl) ?_)) (congrArg (fun c => [c]) (tb_eq rfl ((fillK hkn hpl 1).trans (by rw [hst, show _ = false from c11]; rfl)))) (by repeat (first | exact trivial | refine And.intro (Nat.le_refl _) ?_ | refine And.intro trivial ?_ | refine And.intro (by show _ ≤ _; (first | omega | (simp only [LS] <;> omega))) ?_)) (by repeat (first | exact trivial | refine And.intro (one_ok (.own _ _ _ _ _ (Nat.le_refl _))) ?_ | refine And.intro (okp (by repeat (first | exact pu_bytes _ | exact pu_nil | exact pu_vs rfl | exact pu_map (fun _ => .v _) _ | exact pu_vals _ | refine pu_app ?_ ?_ | refine pu_cons (by exact pu_of rfl) ?_))) ?_))
        ·
          have p8 := c8
          try simp only [CN] at p8
          refine WC.exit (h10_ _ ?_)
          refine WC.seq fun Fh20_ h20_ => ?_
          refine WC.region ?_
          refine RG.op _ _ rfl rfl (o_move (.own _ _ _ _ _) rfl) ?_
          refine RG.op _ _ rfl rfl (o_assign (.own _ _ _ _ _) rfl) ?_
          refine RG.op _ _ rfl rfl (o_assign (.v _) rfl) ?_
          refine RG.nil (h20_ _ ?_)
          refine WC.ret ?_
          exact Ends.r2 rfl (.tmp _ (.own _ _ _ _ _) rfl) (.tmp _ (.v _) rfl) (.tb rfl (by repeat (first | exact pu_bytes _ | exact pu_nil | exact pu_vs rfl | exact pu_map (fun _ => .v _) _ | exact pu_vals _ | refine pu_app ?_ ?_ | refine pu_cons (by exact pu_of rfl) ?_))) (.v _) (by unfold getBl; rw [if_pos h0, if_neg (by omega)]; have e : k = n := (by omega); subst e; exact congrArg (fun c => D.tup [c, I64 0]) (rd_eq (by rw [List.length_map]; omega) (by rw [Nat.sub_self, List.take_of_length_le (by omega)]; simp)))
end Go.Proofs.Ytpdjcfhmdeeikaa
namespace Go.DL
open Go.RowKit
theorem sbits_self (s : ByteArray) : Instr.sameBits 10000 (.string s) (.string s) = true := by
  obtain ⟨d⟩ := s
  show (d == d) = true
  exact beq_self_eq_true d
theorem str_beq (a b : List UInt8) : (strB a == strB b) = (a == b) := by
  show (a.toArray == b.toArray) = _
  rw [Bool.eq_iff_iff]; simp
section
variable {P : Program} {C : Ctx} {env : Nat → D} {H : Heap} {dst : Option Nat} {ty t t' e : TypeId} {pos : String} {after : Array Edge} {gu : Option (Nat × Bool)} {X Y Z : Operand}
/-- A new key in a map of the call's own, by an assignment. -/
theorem o_mapNew {id : Nat} {b : Blk} {kt et : TypeId} {kd : TypeDesc} {k : Value} {d : D} (hx : ev env X = .omp id 0) (hy : ev env Y = .v k) (hz : ev env Z = d) (ht : P.underlying t = some (.map kt et)) (hk : P.underlying kt = some kd) (hf : flatKey kd = true) (hb : H[id]? = some (some b)) (hv : b.ver = 0) (hj : kFind kd k (keysD b.cs) 0 = some none) :
    OpD P C ⟨dst, .mapUpdate t X Y Z, ty, pos, after, gu⟩ env H (.v undef) (H.set id (some { b with cs := b.cs ++ [.tup [.v k, d]] })) := by
  subst hz
  refine OpD.ofSkip (HLe.set hb (Nat.le_refl _)) fun K β a w hw h hk' => ?_
  have h1 := h X (by simp [Op.operands])
  have h2 := h Y (by simp [Op.operands])
  have h3 := h Z (by simp [Op.operands])
  have h4 := hk' Z (by simp [Op.operands])
  rw [hx] at h1; rw [hy] at h2
  obtain ⟨e1, hst⟩ := h1.omp_inv
  rw [← hv] at e1 hst
  obtain ⟨es, ck, hheap, hE⟩ := hw.mapd hb hst
  rw [hE.keys] at hj
  obtain ⟨f1, _⟩ := findNow_of hj
  have hfind : (Instr.findKey kt k es.toList).run P w = .ok none w := by
    simp [Instr.findKey, run_underlying hk, f1]
  have hset : (setObj (β id b.ver).blk (.map (es.push { key := k, val := a.eval Z, born := ck }) (ck + 1))).run P w = .ok () { w with heap := w.heap.setIfInBounds (β id b.ver).blk (.map (es.push { key := k, val := a.eval Z, born := ck }) (ck + 1)) } := by
    simp [setObj, Sem.run, hheap]
  have hlen := hE.len
  refine ⟨K, β, _, ?_, KX.refl _ _, Agr.refl _ _, hw.putO hb (BT.real_ofm hst) (b' := { b with cs := b.cs ++ [.tup [.v k, ev env Z]] }) rfl (.map (es.push { key := k, val := a.eval Z, born := ck }) (ck + 1)) ?_ ?_⟩
  · simp [execOp, e1, h2.v_inv, Instr.mapUpdate, run_underlying ht, run_getMap hheap, run_checkKey' hk hf, hfind, hset]
  · unfold BlkR
    simp only [hst]
    refine ⟨_, _, rfl, by simp [hlen], fun j u d hu hd => ?_, fun i j u v hij hu hv => ?_, fun j u hu => ?_⟩
    · simp only [Array.getElem?_push] at hu
      split at hu
      · rename_i hjs
        subst hjs
        cases hu
        rw [List.getElem?_append_right (by omega)] at hd
        simp [hlen] at hd
        subst hd
        exact ⟨_, rfl, h3⟩
      · have hlt := (Array.getElem?_eq_some_iff.1 hu).1
        rw [List.getElem?_append_left (by omega)] at hd
        exact hE.rd j u d hu hd
    · simp only [Array.getElem?_push] at hu hv
      split at hv
      · cases hv
        split at hu
        · omega
        · exact hE.clock i u hu
      · split at hu
        · have hlt := (Array.getElem?_eq_some_iff.1 hv).1
          omega
        · exact hE.born i j u v hij hu hv
    · simp only [Array.getElem?_push] at hu
      split at hu
      · cases hu; simp
      · have := hE.clock j u hu; omega
  · intro c hc
    rcases List.mem_append.1 hc with h | h
    · exact hw.ok id b hb c h
    · simp at h; subst h; exact .tup _ (by simp; exact ⟨.v _, h4⟩)
/-- A key that is there already: its datum is another now. -/
theorem o_mapSet {id : Nat} {b : Blk} {kt et : TypeId} {s : ByteArray} {d d0 : D} (j : Nat) (hx : ev env X = .omp id 0) (hy : ev env Y = .v (.string s)) (hz : ev env Z = d) (ht : P.underlying t = some (.map kt et)) (hk : P.underlying kt = some .string) (hb : H[id]? = some (some b)) (hv : b.ver = 0) (hj : kFind .string (.string s) (keysD b.cs) 0 = some (some j)) (hd : b.cs[j]? = some (.tup [.v (.string s), d0])) :
    OpD P C ⟨dst, .mapUpdate t X Y Z, ty, pos, after, gu⟩ env H (.v undef) (H.set id (some { b with cs := b.cs.set j (.tup [.v (.string s), d]) })) := by
  subst hz
  refine OpD.ofSkip (HLe.set hb (Nat.le_refl _)) fun K β a w hw h hk' => ?_
  have h1 := h X (by simp [Op.operands])
  have h2 := h Y (by simp [Op.operands])
  have h3 := h Z (by simp [Op.operands])
  have h4 := hk' Z (by simp [Op.operands])
  rw [hx] at h1; rw [hy] at h2
  obtain ⟨e1, hst⟩ := h1.omp_inv
  rw [← hv] at e1 hst
  obtain ⟨es, ck, hheap, hE⟩ := hw.mapd hb hst
  rw [hE.keys] at hj
  obtain ⟨f1, f2⟩ := findNow_of hj
  obtain ⟨_, f3⟩ := f2 j rfl
  rw [Nat.sub_zero] at f3
  have hu : es[j]? = some es[j] := Array.getElem?_eq_getElem (by simpa using f3)
  obtain ⟨dv, e2, hdv⟩ := hE.rd j _ _ hu hd
  have hkey : es[j].key = .string s := by injection e2 with e3; injection e3 with e4 _; injection e4 with e5; exact e5.symm
  have hfind : (Instr.findKey kt (.string s) es.toList).run P w = .ok (some (j, es[j].val)) w := by
    have hl : es.toList[j]? = some es[j] := by rw [Array.getElem?_toList]; exact hu
    simp [Instr.findKey, run_underlying hk, f1, hl, hu]
  have hstay : (Instr.keyThatStays (((es[j]?).map (·.key)).getD (.string s)) (.string s)).run P w = .ok (.string s) w := by
    rw [hu]
    simp only [Option.map_some, Option.getD_some, hkey]
    unfold Instr.keyThatStays
    rw [if_pos (sbits_self s)]
    rfl
  have hset : (setObj (β id b.ver).blk (.map (es.modify j fun e => { e with key := .string s, val := a.eval Z }) ck)).run P w = .ok () { w with heap := w.heap.setIfInBounds (β id b.ver).blk (.map (es.modify j fun e => { e with key := .string s, val := a.eval Z }) ck) } := by
    simp [setObj, Sem.run, hheap]
  have hlen := hE.len
  refine ⟨K, β, _, ?_, KX.refl _ _, Agr.refl _ _, hw.putO hb (BT.real_ofm hst) (b' := { b with cs := b.cs.set j (.tup [.v (.string s), ev env Z]) }) rfl (.map (es.modify j fun e => { e with key := .string s, val := a.eval Z }) ck) ?_ ?_⟩
  · simp only [execOp, e1, h2.v_inv]
    simp [Instr.mapUpdate, run_underlying ht, run_getMap hheap, run_checkKey' hk rfl, hfind, hstay, hset]
  · unfold BlkR
    simp only [hst]
    have hget : ∀ (q : Nat) u, (es.modify j fun e => { e with key := .string s, val := a.eval Z })[q]? = some u → ∃ u0, es[q]? = some u0 ∧ u.born = u0.born ∧ (q ≠ j → u = u0) ∧ (q = j → u.key = .string s ∧ u.val = a.eval Z) := by
      intro q u hq
      rw [Array.getElem?_modify] at hq
      by_cases e : j = q
      · rw [if_pos e] at hq
        obtain ⟨u0, g1, g2⟩ := Option.map_eq_some_iff.1 hq
        subst g2
        exact ⟨u0, g1, rfl, fun hn => absurd e.symm hn, fun _ => ⟨rfl, rfl⟩⟩
      · rw [if_neg e] at hq
        exact ⟨u, hq, rfl, fun _ => rfl, fun hn => absurd hn.symm e⟩
    refine ⟨_, _, rfl, by simp [hlen], fun q u dd hu' hd' => ?_, fun i q u v hij hu' hv' => ?_, fun q u hu' => ?_⟩
    · obtain ⟨u0, g1, _, g3, g4⟩ := hget q u hu'
      by_cases e : q = j
      · obtain ⟨g5, g6⟩ := g4 e
        subst e
        rw [List.getElem?_set_self (by have := (List.getElem?_eq_some_iff.1 hd).1; exact this)] at hd'
        cases hd'
        rw [g5, g6]
        exact ⟨_, rfl, h3⟩
      · rw [List.getElem?_set_ne (Ne.symm e)] at hd'
        rw [g3 e]
        exact hE.rd q u0 dd g1 hd'
    · obtain ⟨u0, g1, g2, _⟩ := hget i u hu'
      obtain ⟨v0, k1, k2, _⟩ := hget q v hv'
      rw [g2, k2]
      exact hE.born i q u0 v0 hij g1 k1
    · obtain ⟨u0, g1, g2, _⟩ := hget q u hu'
      rw [g2]; exact hE.clock q u0 g1
  · intro c hc
    rcases List.mem_or_eq_of_mem_set hc with h | h
    · exact hw.ok id b hb c h
    · subst h; exact .tup _ (by simp; exact ⟨.v _, h4⟩)
/-- How many keys. -/
theorem o_len_omp {id : Nat} {b : Blk} {kt et : TypeId} (hx : ev env X = .omp id 0) (ht : P.underlying t = some (.map kt et)) (hb : H[id]? = some (some b)) (hv : b.ver = 0) : OpD P C ⟨dst, .call { callee := .builtin .len, args := #[X], argTypes := #[t] }, ty, pos, after, gu⟩ env H (I64 b.cs.length) H := by
  refine OpD.same fun K β a w hw hx' _ => ?_
  have h := hx' X (by simp [Op.operands, Call.operands])
  rw [hx] at h
  obtain ⟨e1, hst⟩ := h.omp_inv
  rw [← hv] at e1 hst
  obtain ⟨es, ck, hheap, hE⟩ := hw.mapd hb hst
  exact ⟨.int .i64 (es.size : Nat), by simp [execOp, resolve, invoke, builtin, Builtin.len_, run_underlying ht, e1, run_getMap hheap, goInt], by rw [hE.len]; exact .v _ _, .v _⟩
end
end Go.DL
namespace Go.Proofs.Ytpdjcfhmdeeikaa
open Go.RowKit Go.DL

theorem runsM_is (l : List Int) : runsM l = runsG (chI l 0 0) 0 0 := runsF_is l 0 0 0 0
theorem take_enc {b : List UInt8} {a : Nat} {r : Nat × Nat × Nat} (ha : a ≤ b.length) (hr : r = vget (b.drop a)) (h0 : r.2.2 = 0) : a + r.2.1 ≤ b.length ∧ b.take (a + r.2.1) = b.take a ++ encB r.1 := by
  have h := vget_back (b := b.drop a) (x := r.1) (m := r.2.1) (by rw [← hr, ← h0])
  rw [List.length_drop] at h
  refine ⟨by omega, ?_⟩
  rw [List.take_add, h.2.2]
theorem getD_last {c : List Int} {x : Int} (h : c.getLast? = some x) : 0 < c.length ∧ c.getD (c.length - 1) 0 = x := by
  rw [List.getLast?_eq_getElem?] at h
  have hlt := (List.getElem?_eq_some_iff.1 h).1
  exact ⟨by omega, by rw [List.getD_eq_getElem?_getD, h]; rfl⟩
/-- What is got is put as_ just these bytes. -/
theorem gI_back (b : List UInt8) (n : Nat) : ∀ (f a : Nat) (c c' : List Int), (∀ x ∈ c, in64 x) → b.take a = (runsG c 0 0).flatMap encP → a ≤ b.length → c.length ≤ n → gI b n f a c = (c', 0) → (∀ x ∈ c', in64 x) ∧ b = (runsG c' 0 0).flatMap encP ∧ c'.length = n
  | 0, _, _, _, _, _, _, _, h => by
    have := congrArg Prod.snd h
    have : (21 : Nat) = 0 := this
    omega
  | f + 1, a, c, c', hin, ht, ha, hc, h => by
    rw [gI] at h
    split at h
    · split at h
      · have := congrArg Prod.snd h
        have : (21 : Nat) = 0 := this
        omega
      · have e : c = c' := congrArg Prod.fst h
        subst e
        rw [List.take_of_length_le (by omega)] at ht
        exact ⟨hin, ht, by omega⟩
    rename_i e1
    obtain ⟨r, hr⟩ : ∃ r, r = vget (b.drop a) := ⟨_, rfl⟩
    rw [← hr] at h
    obtain ⟨s, hs⟩ : ∃ s, s = vget (b.drop (a + r.2.1)) := ⟨_, rfl⟩
    rw [← hs] at h
    split at h
    · rename_i e; exact absurd (congrArg Prod.snd h) e
    rename_i e2
    split at h
    · have := congrArg Prod.snd h
      have : (21 : Nat) = 0 := this
      omega
    rename_i e3
    split at h
    · rename_i e; exact absurd (congrArg Prod.snd h) e
    rename_i e4
    split at h
    · have := congrArg Prod.snd h
      have : (21 : Nat) = 0 := this
      omega
    rename_i e5
    have e2 : r.2.2 = 0 := Decidable.not_not.1 e2
    have e4 : s.2.2 = 0 := Decidable.not_not.1 e4
    obtain ⟨a1, t1⟩ := take_enc ha hr e2
    obtain ⟨a2, t2⟩ := take_enc a1 hs e4
    have hzb := zag_bnd (u := s.1) (by rw [hs]; exact vget_lt _)
    refine gI_back b n f _ _ c' ?_ ?_ a2 ?_ h
    · intro x hx
      rcases List.mem_append.1 hx with hx | hx
      · exact hin x hx
      · rw [(List.mem_replicate.1 hx).2]; exact hzb
    · rw [runsG_snoc (by omega) _ c 0 0 (fun x hx => by
        rw [List.replicate_zero, List.nil_append] at hx
        obtain ⟨g1, g2⟩ := getD_last hx
        rw [g2] at e5
        exact fun e => e5 ⟨g1, e⟩), t2, t1, ht, List.flatMap_append]
      simp [encP, zig_zag]
    · simp only [List.length_append, List.length_replicate]; omega
theorem put_get {b : List UInt8} {n : Int} (h : (getI5 b n).2 = 0) : ((nS (getI5 b n).1).2.2.length : Int) = n ∧ putI5 (nS (getI5 b n).1).2.2 = b := by
  unfold getI5 at h ⊢
  split at h
  · exact absurd h (by decide)
  rename_i e
  rw [if_neg e]
  obtain ⟨c, hc⟩ : ∃ c, gG b n.toNat 0 [] = (c, 0) := ⟨(gG b n.toNat 0 []).1, Prod.ext rfl h⟩
  rw [hc]
  obtain ⟨h1, h2, h3⟩ := gI_back b n.toNat _ 0 [] c (fun x hx => by simp at hx) rfl (Nat.zero_le _) (Nat.zero_le _) hc
  obtain ⟨h4, h5⟩ := ch_nS h1
  refine ⟨by rw [nS_len]; show (c.length : Int) = n; omega, ?_⟩
  show putI5 (nS c).2.2 = b
  unfold putI5
  rw [runsM_is, h4]; exact h2.symm
/-! ### Even rows -/
theorem putI5_len (l : List Int) (hl : l.length ≤ 1099511627775) : (putI5 l).length ≤ 20 * (l.length + 1) := by
  have h := runsF_ok l 0 0 0 0 (by omega) (by decide) (by decide)
  have h3 : (runsM l).length ≤ l.length + 1 := h.2
  have h1 : ∀ p ∈ runsM l, okP p := h.1
  have h2 := bytesP_len h1 (runsM l).length
  unfold bytesP at h2
  rw [List.take_length] at h2
  have h4 : (putI5 l).length ≤ 20 * (runsM l).length := h2
  omega
end Go.Proofs.Ytpdjcfhmdeeikaa
namespace Go.Proofs.Ytpdjcfhmdeeikaa
open Go.RowKit Go.DL

set_option maxHeartbeats 4000000 in
theorem gints_c (b : List UInt8) (n : Nat) (hb : b.length ≤ 10995116277760) (hn : n ≤ 65536) : Fun Try.prog 38 [rdB b, I64 ((n : Nat) : Int)] (· = VL (getIl b n)) := by
  refine Fun.of Try.func38 rfl (Nat.le_of_ble_eq_true rfl) fun C => ?_
  refine WC.seq fun Fh1_ h1_ => ?_
  refine WC.region ?_
  refine RG.op _ _ rfl rfl (o_assign (.v _) rfl) ?_
  refine RG.op _ _ rfl rfl (o_assign (.v _) rfl) ?_
  refine RG.nil (h1_ _ ?_)
  refine WC.seq fun Fh2_ h2_ => ?_
  refine WC.region ?_
  refine RG.op _ _ rfl rfl (o_move (.rd _ _) rfl) ?_
  refine RG.op _ _ rfl rfl (o_move (.v _) rfl) ?_
  refine RG.op _ _ rfl rfl ((by exact o_call (ds := [rdB b, I64 (n : Nat)]) Ty.cal53 (geti_c b n hb) ⟨.inl rfl, .inl rfl, trivial⟩ (by exact pua rfl))) ?_
  refine RG.op _ _ rfl rfl (o_move (.tup _) rfl) ?_
  refine RG.op _ _ rfl rfl (o_extract rfl rfl) ?_
  refine RG.op _ _ rfl rfl (o_extract rfl rfl) ?_
  refine RG.op _ _ rfl rfl (o_assign (.rd _ _) rfl) ?_
  refine RG.op _ _ rfl rfl (o_assign (.v _) rfl) ?_
  refine RG.nil (h2_ _ ?_)
  refine WC.seq fun Fh3_ h3_ => ?_
  refine WC.seq fun Fh4_ h4_ => ?_
  refine WC.region ?_
  refine RG.op _ _ rfl rfl (o_move (.v _) rfl) ?_
  refine RG.op _ _ rfl rfl (o_neI rfl rfl) ?_
  refine RG.nil (h4_ _ ?_)
  refine WC.cond _ rfl (fun c2 => ?_) (fun c2 => ?_)
  ·
    have p2 := c2
    try simp only [CN] at p2
    refine WC.seq fun Fh5_ h5_ => ?_
    refine WC.region ?_
    refine RG.op _ _ rfl rfl (o_move (.v _) rfl) ?_
    refine RG.op _ _ rfl rfl (o_assign (.v _) rfl) ?_
    refine RG.op _ _ rfl rfl (o_assign (.v _) rfl) ?_
    refine RG.nil (h5_ _ ?_)
    refine WC.ret ?_
    exact Ends.r2 rfl (.tmp _ (.v _) rfl) (.tmp _ (.v _) rfl) .nilr (.v _) (by unfold getIl; rw [if_neg (by omega)]; rfl)
  ·
    have p2 := c2
    try simp only [CN] at p2
    have h0 : (getI5 b n).2 = 0 := by omega
    have hgl := (put_get h0).1
    obtain ⟨q, hq⟩ : ∃ q, q = (nS (getI5 b n).1).2.2 := ⟨_, rfl⟩
    have hql : q.length = n := by rw [hq]; omega
    rw [← hq] at hgl
    refine WC.skip (h3_ _ ?_)
    refine WC.seq fun Fh6_ h6_ => ?_
    refine WC.region ?_
    refine RG.op _ _ rfl rfl (o_move (.v _) rfl) ?_
    refine RG.op _ _ rfl rfl (o_makeT n n n rfl rfl Try.underlying22 Ty.inf36 rfl rfl (by omega) (by omega) (by omega) (by omega) (by omega)) ?_
    refine RG.op _ _ rfl rfl (o_assign (.own _ _ _ _ _) rfl) ?_
    refine RG.nil (h6_ _ ?_)
    refine WC.seq fun Fh7_ h7_ => ?_
    refine WC.seq fun Fh8_ h8_ => ?_
    rw [← hq]
    refine WC.region ?_
    refine RG.op _ _ rfl rfl (o_move (.rd _ _) rfl) ?_
    refine RG.op _ _ rfl rfl (o_len_rd rfl Try.underlying58) ?_
    refine RG.op _ _ rfl rfl (o_move (.v _) rfl) ?_
    refine RG.nil (h8_ _ ?_)
    refine WC.block ?_
    refine WC.loopU [9, 10, 24, 25, 26, 27, 28, 29, 30, 31, 32, 33, 34] (fun (k : Nat) => [(24, I64 ((k : Nat) : Int))]) (fun (k : Nat) => [(0, tb 36 n (((q.take k).map vI ++ List.replicate (n - k) z0).flatMap vc))]) (fun (k : Nat) => k ≤ n) (fun (k : Nat) => n - k) 0 (by first | omega | exact ubyte _ | (simp only [LS, nS_len] <;> omega)) ?lpa9_ ?lpb10_
    case lpa9_ =>
      exact .mk' ⟨⟨rfl, .v _⟩, trivial⟩ (same_refl _ _) (congrArg (fun c => [c]) (tb_eq rfl (zs_vals rfl _))) (by repeat (first | exact trivial | refine And.intro (Nat.le_refl _) ?_ | refine And.intro trivial ?_ | refine And.intro (by show _ ≤ _; (first | omega | (simp only [LS, nS_len] <;> omega))) ?_)) (by repeat (first | exact trivial | refine And.intro (one_ok (.own _ _ _ _ _ (Nat.le_refl _))) ?_ | refine And.intro (okp (by repeat (first | exact pu_bytes _ | exact pu_nil | exact pu_vs rfl | exact pu_map (fun _ => .v _) _ | exact pu_vals _ | refine pu_app ?_ ?_ | refine pu_cons (by exact pu_of rfl) ?_))) ?_))
    case lpb10_ =>
      rintro k hI
      refine WC.seq fun Fh11_ h11_ => ?_
      refine WC.region ?_
      refine RG.op _ _ rfl rfl (o_ltI rfl rfl) ?_
      refine RG.nil (h11_ _ ?_)
      refine WC.seq fun Fh12_ h12_ => ?_
      refine WC.cond _ rfl (fun c6 => ?_) (fun c6 => ?_)
      ·
        have p6 := c6
        try simp only [CN] at p6
        have hkn : k < n := by omega
        refine WC.skip (h12_ _ ?_)
        refine WC.seq fun Fh13_ h13_ => ?_
        refine WC.block ?_
        refine WC.seq fun Fh14_ h14_ => ?_
        refine WC.region ?_
        refine RG.op _ _ rfl rfl (o_move (.v _) rfl) ?_
        refine RG.op _ _ rfl rfl (o_ixn_M k rfl rfl Try.underlying58 (sz_of Ty.inf2) (by first | omega | exact ubyte _ | (simp only [LS, nS_len] <;> omega)) (by first | omega | exact ubyte _ | (simp only [LS, nS_len] <;> omega))) ?_
        refine RG.op _ _ rfl rfl (o_load_adr rfl Try.underlying2 rfl rfl) ?_
        refine RG.op _ _ rfl rfl (o_assign (.v _) rfl) ?_
        refine RG.op _ _ rfl rfl (o_assign (.v _) rfl) ?_
        refine RG.nil (h14_ _ ?_)
        refine WC.region ?_
        refine RG.op _ _ rfl rfl (o_move (.own _ _ _ _ _) rfl) ?_
        refine RG.op _ _ rfl rfl (o_move (.v _) rfl) ?_
        refine RG.op _ _ rfl rfl (o_move (.v _) rfl) ?_
        refine RG.op _ _ rfl rfl (o_build (cs := [(B8 2), (.v _), S []]) Try.underlying36 Ty.inf36 (Ty.pl36 Try.underlying36) rfl) ?_
        refine RG.op _ _ rfl rfl (o_ixn_own k rfl rfl Try.underlying22 (sz_of Ty.inf36) (by omega) (by omega)) ?_
        refine RG.op _ _ rfl rfl (o_store (d := .agg [_, _, _]) rfl rfl rfl rfl (sz_of Ty.inf36) (by show 0 + k * 3 + 3 ≤ (List.flatMap vc _).length; rw [flen, List.length_append, List.length_map, List.length_take, List.length_replicate]; omega) rfl) ?_
        refine RG.nil (h13_ _ ?_)
        refine WC.region ?_
        refine RG.op _ _ rfl rfl (o_add rfl rfl (by first | omega | exact ubyte _ | (simp only [LS, nS_len] <;> omega)) (by first | omega | exact ubyte _ | (simp only [LS, nS_len] <;> omega))) ?_
        refine RG.op _ _ rfl rfl (o_move (.v _) rfl) ?_
        refine RG.nil (Exists.intro (k + 1) ⟨by first | omega | (simp only [LS, nS_len] <;> omega), by first | omega | (simp only [LS, nS_len] <;> omega), ?_⟩)
        exact .mk' ⟨⟨rfl, .v _⟩, trivial⟩ (by repeat (first | with_reducible exact same_refl _ _ | with_reducible refine same_updO (by with_unfolding_all exact rfl) ?_ | with_reducible refine same_updN ?_ | with_reducible refine same_updL (by with_unfolding_all exact rfl) ?_ | with_reducible refine same_forget (by with_unfolding_all exact rfl) ?_)) (congrArg (fun c => [c]) (tb_eq rfl (by rw [List.take_succ_eq_append_getElem (by omega), List.map_append]; exact fill_val hkn (by rw [List.length_map, List.length_take]; omega) (vI _)))) (by repeat (first | exact trivial | refine And.intro (Nat.le_refl _) ?_ | refine And.intro trivial ?_ | refine And.intro (by show _ ≤ _; (first | omega | (simp only [LS, nS_len] <;> omega))) ?_)) (by repeat (first | exact trivial | refine And.intro (one_ok (.own _ _ _ _ _ (Nat.le_refl _))) ?_ | refine And.intro (okp (by repeat (first | exact pu_bytes _ | exact pu_nil | exact pu_vs rfl | exact pu_map (fun _ => .v _) _ | exact pu_vals _ | refine pu_app ?_ ?_ | refine pu_cons (by exact pu_of rfl) ?_))) ?_))
      ·
        have p6 := c6
        try simp only [CN] at p6
        refine WC.exit (h7_ _ ?_)
        refine WC.seq fun Fh15_ h15_ => ?_
        refine WC.region ?_
        refine RG.op _ _ rfl rfl (o_move (.own _ _ _ _ _) rfl) ?_
        refine RG.op _ _ rfl rfl (o_assign (.own _ _ _ _ _) rfl) ?_
        refine RG.op _ _ rfl rfl (o_assign (.v _) rfl) ?_
        refine RG.nil (h15_ _ ?_)
        refine WC.ret ?_
        exact Ends.r2 rfl (.tmp _ (.own _ _ _ _ _) rfl) (.tmp _ (.v _) rfl) (.tb rfl (by repeat (first | exact pu_bytes _ | exact pu_nil | exact pu_vs rfl | exact pu_map (fun _ => .v _) _ | exact pu_vals _ | refine pu_app ?_ ?_ | refine pu_cons (by exact pu_of rfl) ?_))) (.v _) (by unfold getIl; rw [if_pos h0, ← hq]; have e : k = n := (by omega); subst e; exact congrArg (fun c => D.tup [c, I64 0]) (rd_eq (by rw [List.length_map]; omega) (by rw [Nat.sub_self, List.take_of_length_le (by omega)]; simp)))
/-! ### Words -/
abbrev Txt : Type := List UInt8
def addW (w : List Txt) (t : Txt) : List Txt := if t ∈ w then w else w ++ [t]
def wordsF (l : List Txt) : List Txt := l.foldl addW []
def whM : List Txt → Txt → Nat
  | [], _ => 0
  | x :: r, t => if x = t then 0 else whM r t + 1
theorem wordsF_snoc (l : List Txt) (t : Txt) : wordsF (l ++ [t]) = addW (wordsF l) t := by unfold wordsF; rw [List.foldl_append]; rfl
theorem wordsF_take {l : List Txt} {k : Nat} (h : k < l.length) : wordsF (l.take (k + 1)) = addW (wordsF (l.take k)) l[k] := by rw [List.take_succ_eq_append_getElem h, wordsF_snoc]
theorem addW_pre (w : List Txt) (t : Txt) : w <+: addW w t := by
  unfold addW
  split
  · exact List.prefix_refl _
  · exact List.prefix_append _ _
theorem fold_pre : ∀ (l w : List Txt), w <+: l.foldl addW w
  | [], w => List.prefix_refl _
  | t :: l, w => (addW_pre w t).trans (fold_pre l (addW w t))
theorem wordsF_pre (l : List Txt) (k : Nat) : wordsF (l.take k) <+: wordsF l := by
  have h := fold_pre (l.drop k) (wordsF (l.take k))
  unfold wordsF at *
  rwa [← List.foldl_append, List.take_append_drop] at h
theorem mem_addW (w : List Txt) (t : Txt) : t ∈ addW w t := by
  unfold addW
  split
  · assumption
  · simp
theorem mem_words {l : List Txt} {k : Nat} (h : k < l.length) : l[k] ∈ wordsF (l.take (k + 1)) := by rw [wordsF_take h]; exact mem_addW _ _
theorem wh_lt {t : Txt} : ∀ {w : List Txt}, t ∈ w → whM w t < w.length ∧ w[whM w t]? = some t
  | x :: w, h => by
    rw [whM]
    split
    · rename_i e; exact ⟨by simp, by simp [e]⟩
    · rename_i e
      have h' : t ∈ w := (List.mem_cons.1 h).resolve_left (fun e2 => e e2.symm)
      have ih := wh_lt h'
      exact ⟨by simp; omega, by rw [List.getElem?_cons_succ]; exact ih.2⟩
theorem wh_no {t : Txt} : ∀ {w : List Txt}, ¬ t ∈ w → whM w t = w.length
  | [], _ => rfl
  | x :: w, h => by
    rw [whM, if_neg (fun e => h (by simp [e])), wh_no (fun e => h (by simp [e]))]; rfl
theorem wh_le (w : List Txt) (t : Txt) : whM w t ≤ w.length := by
  rcases Decidable.em (t ∈ w) with h | h
  · exact Nat.le_of_lt (wh_lt h).1
  · exact Nat.le_of_eq (wh_no h)
theorem wh_app {t : Txt} : ∀ {w : List Txt} (r : List Txt), t ∈ w → whM (w ++ r) t = whM w t
  | x :: w, r, h => by
    rw [List.cons_append, whM, whM]
    split
    · rfl
    · rename_i e
      rw [wh_app r ((List.mem_cons.1 h).resolve_left (fun e2 => e e2.symm))]
theorem wh_pre {w w' : List Txt} {t : Txt} (h : w <+: w') (ht : t ∈ w) : whM w' t = whM w t := by
  obtain ⟨r, rfl⟩ := h
  exact wh_app r ht
theorem wh_words {l : List Txt} {k : Nat} (h : k < l.length) : whM (wordsF l) l[k] = whM (wordsF (l.take (k + 1))) l[k] := wh_pre (wordsF_pre l (k + 1)) (mem_words h)
def wB (t : Txt) : List UInt8 := encB t.length ++ t
def wordsB (w : List Txt) : List UInt8 := w.flatMap wB
def szT (l : List Txt) : Nat := (l.map fun t => t.length + 10).sum
theorem szT_app (a b : List Txt) : szT (a ++ b) = szT a + szT b := by unfold szT; rw [List.map_append, List.sum_append]
theorem szT_len (l : List Txt) : l.length ≤ szT l := by
  induction l with
  | nil => exact Nat.zero_le _
  | cons t l ih => simp only [szT, List.map_cons, List.sum_cons, List.length_cons] at *; omega
theorem szT_mem {l : List Txt} {t : Txt} (h : t ∈ l) : t.length + 10 ≤ szT l := by
  induction l with
  | nil => cases h
  | cons x l ih =>
    simp only [szT, List.map_cons, List.sum_cons] at *
    rcases List.mem_cons.1 h with rfl | h
    · omega
    · have := ih h; omega
theorem szT_fold : ∀ (l w : List Txt), szT (l.foldl addW w) ≤ szT w + szT l
  | [], w => Nat.le_refl _
  | t :: l, w => by
    have h := szT_fold l (addW w t)
    have h2 : szT (addW w t) ≤ szT w + (t.length + 10) := by
      unfold addW
      split
      · omega
      · rw [szT_app]; simp [szT]
    have e : szT (t :: l) = t.length + 10 + szT l := by simp [szT]
    rw [List.foldl_cons, e]; omega
theorem szT_words (l : List Txt) : szT (wordsF l) ≤ szT l := by
  have h := szT_fold l []
  have e : szT [] = 0 := rfl
  unfold wordsF; omega
theorem szT_take (l : List Txt) (k : Nat) : szT (l.take k) ≤ szT l := by
  conv => rhs; rw [← List.take_append_drop k l]
  rw [szT_app]; omega
theorem wordsB_len {w : List Txt} (h : szT w ≤ 18446744073709551615) : (wordsB w).length ≤ szT w := by
  induction w with
  | nil => exact Nat.zero_le _
  | cons t w ih =>
    have e : szT (t :: w) = t.length + 10 + szT w := by simp [szT]
    have h1 := encB_len10 (u := t.length) (by omega)
    have h2 := ih (by omega)
    have e2 : (wordsB (t :: w)).length = (encB t.length).length + t.length + (wordsB w).length := by unfold wordsB; rw [List.flatMap_cons, List.length_append, wB, List.length_append]
    omega
theorem wordsB_snoc (w : List Txt) (t : Txt) : wordsB (w ++ [t]) = wordsB w ++ wB t := by unfold wordsB; rw [List.flatMap_append]; simp
def whB (W : List Txt) (l : List Txt) : List UInt8 := l.flatMap fun t => encB (whM W t)
theorem whB_len {W l : List Txt} (h : W.length ≤ 18446744073709551615) : (whB W l).length ≤ 10 * l.length := by
  induction l with
  | nil => exact Nat.zero_le _
  | cons t l ih =>
    have h1 := encB_len10 (u := whM W t) (by have := wh_le W t; omega)
    have e2 : (whB W (t :: l)).length = (encB (whM W t)).length + (whB W l).length := by unfold whB; rw [List.flatMap_cons, List.length_append]
    rw [e2, List.length_cons]; omega
theorem whB_take {W l : List Txt} {k : Nat} (h : k < l.length) : whB W (l.take (k + 1)) = whB W (l.take k) ++ encB (whM W l[k]) := by
  rw [List.take_succ_eq_append_getElem h]; unfold whB; rw [List.flatMap_append]; simp
def txM (l : List Txt) : List UInt8 := encB (wordsF l).length ++ wordsB (wordsF l) ++ whB (wordsF l) l
/-! ### The program's table of places -/
def plF : Nat → List Txt → List D
  | _, [] => []
  | i, t :: w => .tup [.v (.string (strB t)), I64 (i : Nat)] :: plF (i + 1) w
theorem plF_app (b : List Txt) : ∀ (i : Nat) (a : List Txt), plF i (a ++ b) = plF i a ++ plF (i + a.length) b
  | i, [] => rfl
  | i, t :: a => by
    rw [List.cons_append, plF, plF, plF_app b (i + 1) a, List.length_cons, show i + 1 + a.length = i + (a.length + 1) by omega]; rfl
theorem plF_snoc (w : List Txt) (t : Txt) : plF 0 (w ++ [t]) = plF 0 w ++ [.tup [.v (.string (strB t)), I64 (w.length : Nat)]] := by
  rw [plF_app, Nat.zero_add]; rfl
theorem plF_len (w : List Txt) : ∀ i, (plF i w).length = w.length := by
  induction w with
  | nil => intro i; rfl
  | cons t w ih => intro i; rw [plF, List.length_cons, ih, List.length_cons]
theorem pu_plF : ∀ (i : Nat) (w : List Txt), ∀ c ∈ plF i w, Pure' c
  | i, [], c, h => by cases h
  | i, t :: w, c, h => by
    rcases List.mem_cons.1 h with rfl | h
    · exact .tup _ (by simp; exact ⟨.v _, .v _⟩)
    · exact pu_plF (i + 1) w c h
theorem plF_keys : ∀ (i : Nat) (w : List Txt), keysD (plF i w) = w.map fun t => Value.string (strB t)
  | _, [] => rfl
  | i, t :: w => by rw [plF, keysD, plF_keys (i + 1) w]; rfl
theorem plF_get {t : Txt} : ∀ {i j : Nat} {w : List Txt}, w[j]? = some t → (plF i w)[j]? = some (.tup [.v (.string (strB t)), I64 ((i + j : Nat))])
  | i, 0, x :: w, h => by cases h; rfl
  | i, j + 1, x :: w, h => by
    rw [plF, List.getElem?_cons_succ, plF_get (i := i + 1) (j := j) (by simpa using h), show i + 1 + j = i + (j + 1) by omega]
theorem find_hit {t : Txt} : ∀ {w : List Txt} (i : Nat), t ∈ w → kFind .string (.string (strB t)) (w.map fun t => Value.string (strB t)) i = some (some (i + whM w t))
  | x :: w, i, h => by
    rw [List.map_cons, kFind, whM]
    have e : Instr.sameNow .string (.string (strB t)) (.string (strB x)) = some (t == x) := by
      show some (strB t == strB x) = _
      rw [str_beq]
    rw [e]
    by_cases hx : x = t
    · subst hx
      rw [beq_self_eq_true, if_pos rfl]; rfl
    · rw [beq_false_of_ne (fun e2 => hx e2.symm), if_neg hx]
      show kFind _ _ _ (i + 1) = _
      rw [find_hit (i + 1) ((List.mem_cons.1 h).resolve_left (fun e2 => hx e2.symm)), show i + 1 + whM w t = i + (whM w t + 1) by omega]
theorem find_miss {t : Txt} : ∀ {w : List Txt} (i : Nat), ¬ t ∈ w → kFind .string (.string (strB t)) (w.map fun t => Value.string (strB t)) i = some none
  | [], i, h => rfl
  | x :: w, i, h => by
    rw [List.map_cons, kFind]
    have e : Instr.sameNow .string (.string (strB t)) (.string (strB x)) = some (t == x) := by
      show some (strB t == strB x) = _
      rw [str_beq]
    rw [e, beq_false_of_ne (fun e2 => h (by simp [e2]))]
    exact find_miss (i + 1) (fun e2 => h (by simp [e2]))
section
variable {C : Ctx} {env : Nat → D} {H : Heap} {dst : Option Nat} {ty : TypeId} {pos : String} {after : Array Edge} {gu : Option (Nat × Bool)} {X Y Z : Operand}
theorem o_place {id : Nat} {w : List Txt} {t : Txt} {b : Blk} (hx : ev env X = .omp id 0) (hy : ev env Y = S t) (hb : H[id]? = some (some b)) (hv : b.ver = 0) (hc : b.cs = plF 0 w) : OpD Try.prog C ⟨dst, .lookup 78 X Y true, ty, pos, after, gu⟩ env H (.tup [I64 ((if t ∈ w then whM w t else 0 : Nat)), Bo (decide (t ∈ w))]) H := by
  by_cases h : t ∈ w
  · rw [if_pos h, decide_eq_true h]
    have hg := plF_get (i := 0) (wh_lt h).2
    rw [Nat.zero_add] at hg
    exact o_lookupO_hit (whM w t) hx hb hv hy Try.underlying78 Try.underlying9 rfl (by rw [hc, plF_keys]; have := find_hit 0 h; rwa [Nat.zero_add] at this) (by rw [hc]; exact hg)
  · rw [if_neg h, decide_eq_false h]
    exact o_lookupO_miss hx hb hv hy Try.underlying78 Try.underlying9 rfl (z_of Ty.inf3) (by rw [hc, plF_keys]; exact find_miss 0 h)
end
end Go.Proofs.Ytpdjcfhmdeeikaa
namespace Go.Proofs.Ytpdjcfhmdeeikaa
open Go.RowKit Go.DL

abbrev rdS (l : List Txt) : D := .rd l.length (l.map S)
def tsM (l : List Val) : List Txt := l.map fun v => v.t
theorem tsM_len (l : List Val) : (tsM l).length = l.length := List.length_map _
theorem words_le (l : List Txt) : (wordsF l).length ≤ l.length := by
  have h : ∀ (l w : List Txt), (l.foldl addW w).length ≤ w.length + l.length := by
    intro l
    induction l with
    | nil => intro w; exact Nat.le_refl _
    | cons t l ih =>
      intro w
      have h1 := ih (addW w t)
      have h2 : (addW w t).length ≤ w.length + 1 := by unfold addW; split; omega; simp
      rw [List.foldl_cons, List.length_cons]; omega
  have := h l []
  simpa [wordsF] using this
end Go.Proofs.Ytpdjcfhmdeeikaa
namespace Go.Proofs.Ytpdjcfhmdeeikaa
open Go.RowKit Go.DL

theorem lenU {n : Nat} (h : n ≤ 18446744073709551615) : ((n : Int) % 18446744073709551616).toNat = n := by omega
theorem getW (l : List Val) {k : Nat} (h : k < l.length) : (tsM l)[k]'(by rw [tsM_len]; exact h) = l[k].t := by simp [tsM]
def txB (W : List Txt) (j : Nat) (T : List Txt) (k : Nat) : List UInt8 := encB W.length ++ wordsB (W.take j) ++ whB W (T.take k)
theorem txB_len {W T : List Txt} {j k : Nat} (hW : szT W ≤ 1099511627776) : (txB W j T k).length ≤ 10 + szT W + 10 * T.length := by
  have h1 := encB_len10 (u := W.length) (by have := szT_len W; omega)
  have h2 := szT_take W j
  have h3 := wordsB_len (w := W.take j) (by omega)
  have h4 := whB_len (W := W) (l := T.take k) (by have := szT_len W; omega)
  rw [List.length_take] at h4
  unfold txB
  rw [List.length_append, List.length_append]; omega
theorem txB_all (T : List Txt) : txB (wordsF T) (wordsF T).length T T.length = txM T := by unfold txB txM; rw [List.take_length, List.take_length]
end Go.Proofs.Ytpdjcfhmdeeikaa
namespace Go.Proofs.Ytpdjcfhmdeeikaa
open Go.RowKit Go.DL

set_option maxHeartbeats 4000000 in
theorem vputM_c (b : List UInt8) (u : Nat) (hb : b.length ≤ 10995116277760) (hu : u ≤ 18446744073709551615) : FunM Try.prog 54 [rdB b, N64 u] [] (fun o H' => o = .ret (ow 0 (b ++ encB u).length 1) ∧ H' = [tb 5 (b ++ encB u).length (bytesD (b ++ encB u))]) := by
  refine FunM.of Try.func54 rfl (Nat.le_of_ble_eq_true rfl) fun C => ?_
  refine WC.seq fun Fh1_ h1_ => ?_
  refine WC.region ?_
  refine RG.op _ _ rfl rfl (o_assign (.v _) rfl) ?_
  refine RG.nil (h1_ _ ?_)
  refine WC.seq fun Fh2_ h2_ => ?_
  refine WC.region ?_
  refine RG.op _ _ rfl rfl (o_move (.rd _ _) rfl) ?_
  refine RG.op _ _ rfl rfl (o_len_rd rfl Try.underlying24) ?_
  refine RG.op _ _ rfl rfl (o_move (.rd _ _) rfl) ?_
  refine RG.op _ _ rfl rfl (o_len_rd rfl Try.underlying24) ?_
  refine RG.op _ _ rfl rfl (o_add rfl rfl (by first | omega | exact ubyte _ | (simp only [LS] <;> omega)) (by first | omega | exact ubyte _ | (simp only [LS] <;> omega))) ?_
  refine RG.op _ _ rfl rfl (o_makeT b.length b.length (b.length + 10) rfl rfl Try.underlying24 Ty.inf5 rfl rfl (by first | omega | exact ubyte _ | (simp only [LS] <;> omega)) (by first | omega | exact ubyte _ | (simp only [LS] <;> omega)) (by first | omega | exact ubyte _ | (simp only [LS] <;> omega)) (by first | omega | exact ubyte _ | (simp only [LS] <;> omega)) (by first | omega | exact ubyte _ | (simp only [LS] <;> omega))) ?_
  refine RG.op _ _ rfl rfl (o_assign (.own _ _ _ _ _) rfl) ?_
  refine RG.nil (h2_ _ ?_)
  refine WC.seq fun Fh3_ h3_ => ?_
  refine WC.region ?_
  refine RG.op _ _ rfl rfl (o_move (.own _ _ _ _ _) rfl) ?_
  refine RG.op _ _ rfl rfl (o_move (.rd _ _) rfl) ?_
  refine RG.op _ _ rfl rfl (o_copyA rfl rfl Try.underlying24 (sz_of Ty.inf5) rfl rfl (by first | omega | exact ubyte _ | (simp only [LS] <;> omega)) rfl (by first | omega | exact ubyte _ | (simp only [LS] <;> omega)) (by repeat (first | exact bytesD_one _ | exact one_nil | exact one_map (fun _ => rfl) _ | exact one_vals _ | refine one_app ?_ ?_ | refine one_cons rfl ?_))) ?_
  refine RG.nil (h3_ _ ?_)
  refine WC.seq fun Fh4_ h4_ => ?_
  refine WC.block ?_
  refine WC.loopU [1, 5, 15, 16, 17, 18, 19, 20, 21, 22, 23, 24] (fun (p : List UInt8 × Nat) => [(1, N64 p.2), (5, ow 0 (b.length + p.1.length) 1)]) (fun (p : List UInt8 × Nat) => [(0, tb 5 (b.length + p.1.length) (bytesD (b ++ p.1)))]) (fun (p : List UInt8 × Nat) => p.1 ++ encB p.2 = encB u ∧ p.2 ≤ u) (fun (p : List UInt8 × Nat) => p.2) ([], u) ⟨rfl, Nat.le_refl _⟩ ?lpa5_ ?lpb6_
  case lpa5_ =>
    exact .mk' ⟨⟨rfl, .v _⟩, ⟨ow_eq (by simp), (by first | exact .own _ _ _ _ _ (Nat.le_refl _) | exact .ptr _ _ _ (Nat.le_refl _) | exact .omp _ _ (Nat.le_refl _))⟩, trivial⟩ (same_refl _ _) (congrArg (fun c => [c]) (tb_eq (by simp) (by simp))) (by repeat (first | exact trivial | refine And.intro (Nat.le_refl _) ?_ | refine And.intro trivial ?_ | refine And.intro (by show _ ≤ _; (first | omega | (simp only [LS] <;> omega))) ?_)) (by repeat (first | exact trivial | refine And.intro (one_ok (.own _ _ _ _ _ (Nat.le_refl _))) ?_ | refine And.intro (okp (by repeat (first | exact pu_plF _ _ | exact pu_bytes _ | exact pu_nil | exact pu_vs rfl | exact pu_map (fun _ => .v _) _ | exact pu_vals _ | refine pu_app ?_ ?_ | refine pu_cons (by exact pu_of rfl) ?_))) ?_))
  case lpb6_ =>
    rintro p hI
    obtain ⟨he, hp⟩ := id hI
    have hl := enc_lt2 hu he
    refine WC.seq fun Fh7_ h7_ => ?_
    refine WC.seq fun Fh8_ h8_ => ?_
    refine WC.region ?_
    refine RG.op _ _ rfl rfl (o_move (.v _) rfl) ?_
    refine RG.op _ _ rfl rfl (o_geI rfl rfl) ?_
    refine RG.nil (h8_ _ ?_)
    refine WC.cond _ rfl (fun c3 => ?_) (fun c3 => ?_)
    ·
      have p3 := c3
      try simp only [CN] at p3
      refine WC.skip (h7_ _ ?_)
      refine WC.block ?_
      refine WC.seq fun Fh9_ h9_ => ?_
      refine WC.region ?_
      refine RG.op _ _ rfl rfl (o_move (.own _ _ _ _ _) rfl) ?_
      refine RG.op _ _ rfl rfl (o_move (.v _) rfl) ?_
      refine RG.op _ _ rfl rfl (o_UtoB rfl Try.underlying69 Try.underlying5) ?_
      refine RG.op _ _ rfl rfl (o_orB (b := 128) rfl rfl) ?_
      refine RG.op _ _ rfl rfl (o_litP (cs := [(.v _)]) Try.underlying24 Ty.inf5 rfl rfl rfl rfl (by repeat (first | exact pu_plF _ _ | exact pu_bytes _ | exact pu_nil | exact pu_vs rfl | exact pu_map (fun _ => .v _) _ | exact pu_vals _ | refine pu_app ?_ ?_ | refine pu_cons (by exact pu_of rfl) ?_))) ?_
      refine RG.op _ _ rfl rfl (o_appT (Elem.of Try.underlying24 Ty.inf5 rfl (by decide)) rfl rfl rfl (by first | omega | exact ubyte _ | (simp only [LS] <;> omega)) (by first | omega | exact ubyte _ | (simp only [LS] <;> omega)) (by repeat (first | exact bytesD_one _ | exact one_nil | exact one_map (fun _ => rfl) _ | exact one_vals _ | refine one_app ?_ ?_ | refine one_cons rfl ?_)) (by first | omega | exact ubyte _ | (simp only [LS] <;> omega)) (by first | omega | exact ubyte _ | (simp only [LS] <;> omega))) ?_
      refine RG.op _ _ rfl rfl (o_assign (.own _ _ _ _ _) rfl) ?_
      refine RG.nil (h9_ _ ?_)
      refine WC.region ?_
      refine RG.op _ _ rfl rfl (o_move (.v _) rfl) ?_
      refine RG.op _ _ rfl rfl (o_shrU (n := 7) rfl rfl (by show _ ≤ 64; (first | omega | (simp only [LS] <;> omega)))) ?_
      refine RG.op _ _ rfl rfl (o_assign (.v _) rfl) ?_
      refine RG.nil (Exists.intro ((p.1 ++ [UInt8.ofNat (p.2 % 128 + 128)], p.2 / 128)) ⟨⟨by rw [← he, encB_big (u := p.2) (by omega), List.append_assoc]; rfl, by show p.2 / 128 ≤ u; omega⟩, by show p.2 / 128 < p.2; omega, ?_⟩)
      exact .mk' ⟨⟨rfl, .v _⟩, ⟨ow_eq (by simp; omega), (by first | exact .own _ _ _ _ _ (Nat.le_refl _) | exact .ptr _ _ _ (Nat.le_refl _) | exact .omp _ _ (Nat.le_refl _))⟩, trivial⟩ (by repeat (first | with_reducible exact same_refl _ _ | with_reducible refine same_updO (by with_unfolding_all exact rfl) ?_ | with_reducible refine same_updN ?_ | with_reducible refine same_updL (by with_unfolding_all exact rfl) ?_ | with_reducible refine same_forget (by with_unfolding_all exact rfl) ?_)) (congrArg (fun c => [c]) (tb_eq (by simp; omega) (by rw [or_128, ← List.append_assoc]; exact (bytesD_app _ [_]).symm))) (by repeat (first | exact trivial | refine And.intro (Nat.le_refl _) ?_ | refine And.intro trivial ?_ | refine And.intro (by show _ ≤ _; (first | omega | (simp only [LS] <;> omega))) ?_)) (by repeat (first | exact trivial | refine And.intro (one_ok (.own _ _ _ _ _ (Nat.le_refl _))) ?_ | refine And.intro (okp (by repeat (first | exact pu_plF _ _ | exact pu_bytes _ | exact pu_nil | exact pu_vs rfl | exact pu_map (fun _ => .v _) _ | exact pu_vals _ | refine pu_app ?_ ?_ | refine pu_cons (by exact pu_of rfl) ?_))) ?_))
    ·
      have p3 := c3
      try simp only [CN] at p3
      refine WC.exit (h4_ _ ?_)
      refine WC.seq fun Fh10_ h10_ => ?_
      refine WC.region ?_
      refine RG.op _ _ rfl rfl (o_move (.own _ _ _ _ _) rfl) ?_
      refine RG.op _ _ rfl rfl (o_move (.v _) rfl) ?_
      refine RG.op _ _ rfl rfl (o_UtoB rfl Try.underlying69 Try.underlying5) ?_
      refine RG.op _ _ rfl rfl (o_litP (cs := [(.v _)]) Try.underlying24 Ty.inf5 rfl rfl rfl rfl (by repeat (first | exact pu_plF _ _ | exact pu_bytes _ | exact pu_nil | exact pu_vs rfl | exact pu_map (fun _ => .v _) _ | exact pu_vals _ | refine pu_app ?_ ?_ | refine pu_cons (by exact pu_of rfl) ?_))) ?_
      refine RG.op _ _ rfl rfl (o_appT (Elem.of Try.underlying24 Ty.inf5 rfl (by decide)) rfl rfl rfl (by first | omega | exact ubyte _ | (simp only [LS] <;> omega)) (by first | omega | exact ubyte _ | (simp only [LS] <;> omega)) (by repeat (first | exact bytesD_one _ | exact one_nil | exact one_map (fun _ => rfl) _ | exact one_vals _ | refine one_app ?_ ?_ | refine one_cons rfl ?_)) (by first | omega | exact ubyte _ | (simp only [LS] <;> omega)) (by first | omega | exact ubyte _ | (simp only [LS] <;> omega))) ?_
      refine RG.op _ _ rfl rfl (o_assign (.own _ _ _ _ _) rfl) ?_
      refine RG.nil (h10_ _ ?_)
      refine WC.ret ?_
      first | refine endM.mk (H0 := []) 1 [_] rfl rfl (by repeat (first | exact trivial | refine And.intro (one_ok (.own _ _ _ _ _ (Nat.le_refl _))) ?_ | refine And.intro (okp (by repeat (first | exact pu_plF _ _ | exact pu_bytes _ | exact pu_nil | exact pu_vs rfl | exact pu_map (fun _ => .v _) _ | exact pu_vals _ | refine pu_app ?_ ?_ | refine pu_cons (by exact pu_of rfl) ?_))) ?_)) ?_ | (simp only [thenQ, blkQ, noGo]; refine endM.mk (H0 := []) 1 [_] rfl rfl (by repeat (first | exact trivial | refine And.intro (one_ok (.own _ _ _ _ _ (Nat.le_refl _))) ?_ | refine And.intro (okp (by repeat (first | exact pu_plF _ _ | exact pu_bytes _ | exact pu_nil | exact pu_vs rfl | exact pu_map (fun _ => .v _) _ | exact pu_vals _ | refine pu_app ?_ ?_ | refine pu_cons (by exact pu_of rfl) ?_))) ?_)) ?_) | refine endM.mk 1 [_] rfl rfl (by repeat (first | exact trivial | refine And.intro (one_ok (.own _ _ _ _ _ (Nat.le_refl _))) ?_ | refine And.intro (okp (by repeat (first | exact pu_plF _ _ | exact pu_bytes _ | exact pu_nil | exact pu_vs rfl | exact pu_map (fun _ => .v _) _ | exact pu_vals _ | refine pu_app ?_ ?_ | refine pu_cons (by exact pu_of rfl) ?_))) ?_)) ?_
      exact EndsM.r1 rfl (.tmp _ (.own _ _ _ _ _) rfl) (by first | exact .own _ _ _ _ _ (Nat.le_refl _) | exact .v _ | exact Pure'.ok (by exact pu_of rfl) _ | exact .tup _ (by repeat (first | exact ok_nil | refine ok_cons (by first | exact .own _ _ _ _ _ (Nat.le_refl _) | exact .ptr _ _ _ (Nat.le_refl _) | exact .v _ | exact Pure'.ok (by exact pu_of rfl) _) ?_))) (⟨congrArg DOut.ret (ow_eq (by rw [← he, encB_small (u := p.2) (by omega)]; simp; omega)), congrArg (fun c => [c]) (tb_eq (by rw [← he, encB_small (u := p.2) (by omega)]; simp; omega) (by rw [← he, encB_small (u := p.2) (by omega), ← List.append_assoc]; exact (bytesD_app _ [_]).symm))⟩)
theorem heq3 {α : Type} {a a' b b' c c' : α} (h1 : a = a') (h2 : b = b') (h3 : c = c') : [a, b, c] = [a', b', c'] := by rw [h1, h2, h3]
theorem heq4 {α : Type} {a a' b b' c c' d : α} (h1 : a = a') (h2 : b = b') (h3 : c = c') : [a, b, c, d] = [a', b', c', d] := by rw [h1, h2, h3]
theorem mb_eq {t : TypeId} {cs cs' : List D} (h : cs = cs') : (some ⟨cs, t, false, 0⟩ : Option Blk) = some ⟨cs', t, false, 0⟩ := by rw [h]
abbrev wT (T : List Txt) (k : Nat) : List Txt := wordsF (T.take k)
theorem getD_T {l : List Val} {k : Nat} (h : k < l.length) : (tsM l)[k]? = some l[k].t := by rw [List.getElem?_eq_getElem (by rw [tsM_len]; exact h), getW l h]
theorem wT_step {T : List Txt} {k : Nat} {t : Txt} (h : T[k]? = some t) : wT T (k + 1) = addW (wT T k) t := by
  have hk := (List.getElem?_eq_some_iff.1 h).1
  have e : T[k] = t := (List.getElem?_eq_some_iff.1 h).2
  rw [← e]; exact wordsF_take hk
theorem wT_wh {T : List Txt} {k : Nat} {t : Txt} (h : T[k]? = some t) : whM (wordsF T) t = whM (wT T (k + 1)) t := by
  have hk := (List.getElem?_eq_some_iff.1 h).1
  have e : T[k] = t := (List.getElem?_eq_some_iff.1 h).2
  rw [← e]; exact wh_words hk
theorem wT_whB {W T : List Txt} {k : Nat} {t : Txt} (h : T[k]? = some t) : whB W (T.take (k + 1)) = whB W (T.take k) ++ encB (whM W t) := by
  have hk := (List.getElem?_eq_some_iff.1 h).1
  have e : T[k] = t := (List.getElem?_eq_some_iff.1 h).2
  rw [← e]; exact whB_take hk
theorem wT_sz (T : List Txt) (k : Nat) : szT (wT T k) ≤ szT T ∧ (wT T k).length ≤ T.length := by
  have h1 := szT_words (T.take k)
  have h2 := szT_take T k
  have h3 := words_le (T.take k)
  rw [List.length_take] at h3
  show szT (wordsF (T.take k)) ≤ _ ∧ (wordsF (T.take k)).length ≤ _
  exact ⟨by omega, by omega⟩
theorem wh_add {w : List Txt} {t : Txt} (h : ¬ t ∈ w) : whM (addW w t) t = w.length := by
  have e : ∀ w : List Txt, ¬ t ∈ w → whM (w ++ [t]) t = w.length := by
    intro w
    induction w with
    | nil => intro _; show (if t = t then 0 else _) = 0; rw [if_pos rfl]
    | cons x w ih =>
      intro hn
      rw [List.cons_append, whM, if_neg (fun e => hn (by simp [e])), ih (fun e => hn (by simp [e]))]; rfl
  unfold addW
  rw [if_neg h]; exact e w h
set_option maxHeartbeats 4000000 in
theorem ptexts_c (l : List Val) (hl : szT (tsM l) ≤ 109951162777) : Fun Try.prog 39 [rdV l] (· = rdB (txM (tsM l))) := by
  obtain ⟨T, hT⟩ : ∃ T, T = tsM l := ⟨_, rfl⟩
  rw [← hT] at hl
  have htl : T.length = l.length := by rw [hT, tsM_len]
  have hsl := szT_len T
  have hWl := words_le T
  have hWs := szT_words T
  refine Fun.of Try.func39 rfl (Nat.le_of_ble_eq_true rfl) fun C => ?_
  refine WC.seq fun Fh1_ h1_ => ?_
  refine WC.region ?_
  refine RG.op _ _ rfl rfl (o_assign (.v _) rfl) ?_
  refine RG.nil (h1_ _ ?_)
  refine WC.seq fun Fh2_ h2_ => ?_
  refine WC.region ?_
  refine RG.op _ _ rfl rfl (o_makeMap trivial) ?_
  refine RG.op _ _ rfl rfl (o_assign (.omp _ _) rfl) ?_
  refine RG.nil (h2_ _ ?_)
  refine WC.seq fun Fh3_ h3_ => ?_
  refine WC.region ?_
  refine RG.op _ _ rfl rfl (o_nil 5 1) ?_
  refine RG.op _ _ rfl rfl (o_nil 5 1) ?_
  refine RG.nil (h3_ _ ?_)
  refine WC.seq fun Fh4_ h4_ => ?_
  refine WC.seq fun Fh5_ h5_ => ?_
  refine WC.region ?_
  refine RG.op _ _ rfl rfl (o_move (.rd _ _) rfl) ?_
  refine RG.op _ _ rfl rfl (o_len_rd rfl Try.underlying22) ?_
  refine RG.op _ _ rfl rfl (o_move (.v _) rfl) ?_
  refine RG.nil (h5_ _ ?_)
  refine WC.block ?_
  refine WC.loopU [4, 5, 7, 8, 9, 14, 15, 16, 17, 18, 19, 20, 21, 22, 23, 24, 25, 26, 27, 28, 29, 30, 31, 32, 33, 34, 35, 36, 37, 38, 39, 40, 41, 42, 43, 44, 45, 46, 47, 48, 49] (fun (k : Nat) => [(14, I64 ((k : Nat) : Int)), (4, ow 1 (wordsB (wT T k)).length 1), (5, ow 2 (whB (wordsF T) (T.take k)).length 1)]) (fun (k : Nat) => [(0, some ⟨plF 0 (wT T k), 78, false, 0⟩), (1, tb 5 (wordsB (wT T k)).length (bytesD (wordsB (wT T k)))), (2, tb 5 (whB (wordsF T) (T.take k)).length (bytesD (whB (wordsF T) (T.take k))))]) (fun (k : Nat) => k ≤ l.length) (fun (k : Nat) => l.length - k) 0 (by first | omega | exact ubyte _ | (simp only [LS] <;> omega)) ?lpa6_ ?lpb7_
  case lpa6_ =>
    exact .mk' ⟨⟨rfl, .v _⟩, ⟨rfl, (by first | exact .own _ _ _ _ _ (Nat.le_refl _) | exact .ptr _ _ _ (Nat.le_refl _) | exact .omp _ _ (Nat.le_refl _))⟩, ⟨rfl, (by first | exact .own _ _ _ _ _ (Nat.le_refl _) | exact .ptr _ _ _ (Nat.le_refl _) | exact .omp _ _ (Nat.le_refl _))⟩, trivial⟩ (same_refl _ _) (rfl) (by repeat (first | exact trivial | refine And.intro (Nat.le_refl _) ?_ | refine And.intro trivial ?_ | refine And.intro (by show _ ≤ _; (first | omega | (simp only [LS] <;> omega))) ?_)) (by repeat (first | exact trivial | refine And.intro (one_ok (.own _ _ _ _ _ (Nat.le_refl _))) ?_ | refine And.intro (okp (by repeat (first | exact pu_plF _ _ | exact pu_bytes _ | exact pu_nil | exact pu_vs rfl | exact pu_map (fun _ => .v _) _ | exact pu_vals _ | refine pu_app ?_ ?_ | refine pu_cons (by exact pu_of rfl) ?_))) ?_))
  case lpb7_ =>
    rintro k hI
    have hsz := wT_sz T k
    have hbl := wordsB_len (w := wT T k) (by omega)
    have hpl := plF_len (wT T k) 0
    have hwl := whB_len (W := wordsF T) (l := T.take k) (by omega)
    rw [List.length_take] at hwl
    refine WC.seq fun Fh8_ h8_ => ?_
    refine WC.region ?_
    refine RG.op _ _ rfl rfl (o_ltI rfl rfl) ?_
    refine RG.nil (h8_ _ ?_)
    refine WC.seq fun Fh9_ h9_ => ?_
    refine WC.cond _ rfl (fun c4 => ?_) (fun c4 => ?_)
    ·
      have p4 := c4
      try simp only [CN] at p4
      have hkl : k < l.length := by omega
      have hTk : T[k]? = some l[k].t := by rw [hT]; exact getD_T hkl
      have hsm := szT_mem (List.mem_of_getElem? hTk)
      have he4 := encB_len10 (u := (l[k]'hkl).t.length) (by omega)
      have hst := wT_step hTk
      have hwh := wT_wh hTk
      have hwle := wh_le (wordsF T) (l[k]'hkl).t
      have he5 := encB_len10 (u := whM (wordsF T) (l[k]'hkl).t) (by omega)
      have hb2 := congrArg List.length (wT_whB (W := wordsF T) hTk)
      rw [List.length_append] at hb2
      have hb3 : (wordsB (wT T (k + 1))).length ≤ (wordsB (wT T k)).length + ((encB (l[k]'hkl).t.length).length + (l[k]'hkl).t.length) ∧ (wordsB (wT T k)).length ≤ (wordsB (wT T (k + 1))).length := by rw [hst]; unfold addW; split; omega; (rw [wordsB_snoc, List.length_append, wB, List.length_append]; omega)
      refine WC.skip (h9_ _ ?_)
      refine WC.seq fun Fh10_ h10_ => ?_
      refine WC.block ?_
      refine WC.seq fun Fh11_ h11_ => ?_
      refine WC.region ?_
      refine RG.op _ _ rfl rfl (o_ixn_L k vc_len rfl rfl rfl Try.underlying22 (sz_of Ty.inf36) (by first | omega | exact ubyte _ | (simp only [LS] <;> omega)) (by first | omega | exact ubyte _ | (simp only [LS] <;> omega))) ?_
      refine RG.op _ _ rfl rfl (o_load_adr_L (xs := [_, _, _]) rfl Try.underlying36 rfl (sz_of Ty.inf36) rfl) ?_
      refine RG.op _ _ rfl rfl (o_alloc (z_of Ty.inf36) rfl) ?_
      refine RG.op _ _ rfl rfl (o_store (d := (.agg [_, _, _])) rfl rfl rfl rfl (sz_of Ty.inf36) (Nat.le_of_ble_eq_true rfl) rfl) ?_
      refine RG.nil (h11_ _ ?_)
      refine WC.seq fun Fh12_ h12_ => ?_
      refine WC.region ?_
      refine RG.op _ _ rfl rfl (o_move (.omp _ _) rfl) ?_
      refine RG.op _ _ rfl rfl (o_fld_ptr rfl Try.underlying36 rfl (sz_of Ty.inf9) (by decide)) ?_
      refine RG.op _ _ rfl rfl (o_load_ptr rfl Try.underlying9 rfl rfl rfl rfl) ?_
      refine RG.op _ _ rfl rfl (o_place (w := wT T k) (t := (l[k]'hkl).t) rfl rfl rfl rfl rfl) ?_
      refine RG.op _ _ rfl rfl (o_move (.tup _) rfl) ?_
      refine RG.op _ _ rfl rfl (o_extract rfl rfl) ?_
      refine RG.op _ _ rfl rfl (o_extract rfl rfl) ?_
      refine RG.op _ _ rfl rfl (o_assign (.v _) rfl) ?_
      refine RG.op _ _ rfl rfl (o_assign (.v _) rfl) ?_
      refine RG.nil (h12_ _ ?_)
      refine WC.joinU [4, 8, 25, 26, 27, 28, 29, 30, 31, 32, 33, 34, 35, 36, 37, 38, 39, 40, 41, 42, 43] (fun (u : Unit) => [(8, I64 (((whM (wordsF T) (l[k]'hkl).t) : Nat) : Int)), (4, ow 1 (wordsB (wT T (k + 1))).length 1), (5, ow 2 (whB (wordsF T) (T.take k)).length 1)]) (fun (u : Unit) => [(0, some ⟨plF 0 (wT T (k + 1)), 78, false, 0⟩), (1, tb 5 (wordsB (wT T (k + 1))).length (bytesD (wordsB (wT T (k + 1)))))]) (fun (u : Unit) => True) ?_ ?_
      ·
        refine WC.seq fun Fh13_ h13_ => ?_
        refine WC.region ?_
        refine RG.op _ _ rfl rfl (o_move (.v _) rfl) ?_
        refine RG.op _ _ rfl rfl (o_not rfl) ?_
        refine RG.nil (h13_ _ ?_)
        refine WC.cond _ rfl (fun c7 => ?_) (fun c7 => ?_)
        ·
          have p7 := c7
          try simp only [CN] at p7
          have hno : ¬ (l[k]'hkl).t ∈ wT T k := p7
          have hadd : wT T (k + 1) = wT T k ++ [(l[k]'hkl).t] := by rw [hst]; unfold addW; rw [if_neg hno]
          refine WC.seq fun Fh14_ h14_ => ?_
          refine WC.region ?_
          refine RG.op _ _ rfl rfl (o_move (.omp _ _) rfl) ?_
          refine RG.op _ _ rfl rfl ((o_len_omp rfl Try.underlying78 rfl rfl).cast (congrArg I64 (congrArg (fun n : Nat => (n : Int)) hpl))) ?_
          refine RG.op _ _ rfl rfl (o_assign (.v _) rfl) ?_
          refine RG.nil (h14_ _ ?_)
          refine WC.seq fun Fh15_ h15_ => ?_
          refine WC.region ?_
          refine RG.op _ _ rfl rfl (o_move (.omp _ _) rfl) ?_
          refine RG.op _ _ rfl rfl (o_fld_ptr rfl Try.underlying36 rfl (sz_of Ty.inf9) (by decide)) ?_
          refine RG.op _ _ rfl rfl (o_load_ptr rfl Try.underlying9 rfl rfl rfl rfl) ?_
          refine RG.op _ _ rfl rfl (o_move (.v _) rfl) ?_
          refine RG.op _ _ rfl rfl (o_mapNew (d := I64 ((wT T k).length : Nat)) rfl rfl rfl Try.underlying78 Try.underlying9 rfl rfl rfl (by show kFind _ _ (keysD (plF 0 (wT T k))) 0 = _; rw [plF_keys]; exact find_miss 0 hno)) ?_
          refine RG.nil (h15_ _ ?_)
          refine WC.seq fun Fh16_ h16_ => ?_
          refine WC.region ?_
          refine RG.op _ _ rfl rfl (o_move (.own _ _ _ _ _) rfl) ?_
          refine RG.op _ _ rfl rfl (o_fld_ptr rfl Try.underlying36 rfl (sz_of Ty.inf9) (by decide)) ?_
          refine RG.op _ _ rfl rfl (o_load_ptr (d := S (l[k]'hkl).t) rfl Try.underlying9 rfl rfl rfl rfl) ?_
          refine RG.op _ _ rfl rfl (o_lenS rfl Try.underlying9) ?_
          refine RG.op _ _ rfl rfl ((o_i64toU rfl Try.underlying3 Try.underlying69).cast (congrArg N64 (lenU (by omega)))) ?_
          refine RG.op _ _ rfl rfl (o_call Ty.cal54 (vput_c [] (l[k]'hkl).t.length (by first | omega | exact ubyte _ | (simp only [LS] <;> omega)) (by omega)) ⟨.inr ⟨rfl, rfl⟩, .inl rfl, trivial⟩ (by exact pua rfl)) ?_
          refine RG.op _ _ rfl rfl (o_appT (Elem.of Try.underlying24 Ty.inf5 rfl (by decide)) rfl rfl rfl (by first | omega | exact ubyte _ | (simp only [LS] <;> omega)) (by first | omega | exact ubyte _ | (simp only [LS] <;> omega)) (by repeat (first | exact bytesD_one _ | exact one_nil | exact one_map (fun _ => rfl) _ | exact one_vals _ | refine one_app ?_ ?_ | refine one_cons rfl ?_)) (by first | omega | exact ubyte _ | (simp only [LS] <;> omega)) (by first | omega | exact ubyte _ | (simp only [LS] <;> omega))) ?_
          refine RG.op _ _ rfl rfl (o_assign (.own _ _ _ _ _) rfl) ?_
          refine RG.nil (h16_ _ ?_)
          refine WC.region ?_
          refine RG.op _ _ rfl rfl (o_move (.own _ _ _ _ _) rfl) ?_
          refine RG.op _ _ rfl rfl (o_fld_ptr rfl Try.underlying36 rfl (sz_of Ty.inf9) (by decide)) ?_
          refine RG.op _ _ rfl rfl (o_load_ptr (d := S (l[k]'hkl).t) rfl Try.underlying9 rfl rfl rfl rfl) ?_
          refine RG.op _ _ rfl rfl (o_appS (Elem.of Try.underlying24 Ty.inf5 rfl (by decide)) rfl rfl Try.underlying9 Ty.inf5 rfl (by first | omega | exact ubyte _ | (simp only [LS] <;> omega)) (by first | omega | exact ubyte _ | (simp only [LS] <;> omega)) (by first | omega | exact ubyte _ | (simp only [LS] <;> omega))) ?_
          refine RG.op _ _ rfl rfl (o_assign (.own _ _ _ _ _) rfl) ?_
          refine RG.nil (Exists.intro (()) ⟨by first | omega | (simp only [LS] <;> omega), ?_⟩)
          exact .mk' ⟨⟨congrArg I64 (by rw [hwh, hst, wh_add hno]), .v _⟩, ⟨ow_eq (by rw [hadd, wordsB_snoc]; simp [wB]; omega), (by first | exact .own _ _ _ _ _ (Nat.le_refl _) | exact .ptr _ _ _ (Nat.le_refl _) | exact .omp _ _ (Nat.le_refl _))⟩, ⟨rfl, (by first | exact .own _ _ _ _ _ (Nat.le_refl _) | exact .ptr _ _ _ (Nat.le_refl _) | exact .omp _ _ (Nat.le_refl _))⟩, trivial⟩ (by repeat (first | with_reducible exact same_refl _ _ | with_reducible refine same_updO (by with_unfolding_all exact rfl) ?_ | with_reducible refine same_updN ?_ | with_reducible refine same_updL (by with_unfolding_all exact rfl) ?_ | with_reducible refine same_forget (by with_unfolding_all exact rfl) ?_)) (heq4 (mb_eq (by rw [hadd, plF_snoc])) (tb_eq (by rw [hadd, wordsB_snoc]; simp [wB]; omega) (by rw [hadd, wordsB_snoc]; simp [wB, bytesD_app])) rfl) (by repeat (first | exact trivial | refine And.intro (Nat.le_refl _) ?_ | refine And.intro trivial ?_ | refine And.intro (by show _ ≤ _; (first | omega | (simp only [LS] <;> omega))) ?_)) (by repeat (first | exact trivial | refine And.intro (one_ok (.own _ _ _ _ _ (Nat.le_refl _))) ?_ | refine And.intro (okp (by repeat (first | exact pu_plF _ _ | exact pu_bytes _ | exact pu_nil | exact pu_vs rfl | exact pu_map (fun _ => .v _) _ | exact pu_vals _ | refine pu_app ?_ ?_ | refine pu_cons (by exact pu_of rfl) ?_))) ?_))
        ·
          have p7 := c7
          try simp only [CN] at p7
          have hmem : (l[k]'hkl).t ∈ wT T k := p7
          have hsame : wT T (k + 1) = wT T k := by rw [hst]; unfold addW; rw [if_pos hmem]
          refine WC.skip (Exists.intro (()) ⟨by first | omega | (simp only [LS] <;> omega), ?_⟩)
          exact .mk' ⟨⟨congrArg I64 (by rw [if_pos hmem, hwh, hsame]), .v _⟩, ⟨ow_eq (by rw [hsame]), (by first | exact .own _ _ _ _ _ (Nat.le_refl _) | exact .ptr _ _ _ (Nat.le_refl _) | exact .omp _ _ (Nat.le_refl _))⟩, ⟨rfl, (by first | exact .own _ _ _ _ _ (Nat.le_refl _) | exact .ptr _ _ _ (Nat.le_refl _) | exact .omp _ _ (Nat.le_refl _))⟩, trivial⟩ (by repeat (first | with_reducible exact same_refl _ _ | with_reducible refine same_updO (by with_unfolding_all exact rfl) ?_ | with_reducible refine same_updN ?_ | with_reducible refine same_updL (by with_unfolding_all exact rfl) ?_ | with_reducible refine same_forget (by with_unfolding_all exact rfl) ?_)) (heq4 (mb_eq (by rw [hsame])) (tb_eq (by rw [hsame]) (by rw [hsame])) rfl) (by repeat (first | exact trivial | refine And.intro (Nat.le_refl _) ?_ | refine And.intro trivial ?_ | refine And.intro (by show _ ≤ _; (first | omega | (simp only [LS] <;> omega))) ?_)) (by repeat (first | exact trivial | refine And.intro (one_ok (.own _ _ _ _ _ (Nat.le_refl _))) ?_ | refine And.intro (okp (by repeat (first | exact pu_plF _ _ | exact pu_bytes _ | exact pu_nil | exact pu_vs rfl | exact pu_map (fun _ => .v _) _ | exact pu_vals _ | refine pu_app ?_ ?_ | refine pu_cons (by exact pu_of rfl) ?_))) ?_))
      ·
        rintro u hI
        refine WC.region ?_
        refine RG.op _ _ rfl rfl (o_move (.own _ _ _ _ _) rfl) ?_
        refine RG.op _ _ rfl rfl (o_move (.v _) rfl) ?_
        refine RG.op _ _ rfl rfl ((o_i64toU rfl Try.underlying3 Try.underlying69).cast (congrArg N64 (lenU (by omega)))) ?_
        refine RG.op _ _ rfl rfl (o_call Ty.cal54 (vput_c [] (whM (wordsF T) (l[k]'hkl).t) (by first | omega | exact ubyte _ | (simp only [LS] <;> omega)) (by omega)) ⟨.inr ⟨rfl, rfl⟩, .inl rfl, trivial⟩ (by exact pua rfl)) ?_
        refine RG.op _ _ rfl rfl (o_appT (Elem.of Try.underlying24 Ty.inf5 rfl (by decide)) rfl rfl rfl (by first | omega | exact ubyte _ | (simp only [LS] <;> omega)) (by first | omega | exact ubyte _ | (simp only [LS] <;> omega)) (by repeat (first | exact bytesD_one _ | exact one_nil | exact one_map (fun _ => rfl) _ | exact one_vals _ | refine one_app ?_ ?_ | refine one_cons rfl ?_)) (by first | omega | exact ubyte _ | (simp only [LS] <;> omega)) (by first | omega | exact ubyte _ | (simp only [LS] <;> omega))) ?_
        refine RG.op _ _ rfl rfl (o_assign (.own _ _ _ _ _) rfl) ?_
        refine RG.nil (h10_ _ ?_)
        refine WC.region ?_
        refine RG.op _ _ rfl rfl (o_add rfl rfl (by first | omega | exact ubyte _ | (simp only [LS] <;> omega)) (by first | omega | exact ubyte _ | (simp only [LS] <;> omega))) ?_
        refine RG.op _ _ rfl rfl (o_move (.v _) rfl) ?_
        refine RG.nil (Exists.intro (k + 1) ⟨by first | omega | (simp only [LS] <;> omega), by first | omega | (simp only [LS] <;> omega), ?_⟩)
        exact .mk' ⟨⟨rfl, .v _⟩, ⟨rfl, (by first | exact .own _ _ _ _ _ (Nat.le_refl _) | exact .ptr _ _ _ (Nat.le_refl _) | exact .omp _ _ (Nat.le_refl _))⟩, ⟨ow_eq (by rw [wT_whB hTk]; simp), (by first | exact .own _ _ _ _ _ (Nat.le_refl _) | exact .ptr _ _ _ (Nat.le_refl _) | exact .omp _ _ (Nat.le_refl _))⟩, trivial⟩ (by repeat (first | with_reducible exact same_refl _ _ | with_reducible refine same_updO (by with_unfolding_all exact rfl) ?_ | with_reducible refine same_updN ?_ | with_reducible refine same_updL (by with_unfolding_all exact rfl) ?_ | with_reducible refine same_forget (by with_unfolding_all exact rfl) ?_)) (heq3 rfl rfl (tb_eq (by rw [wT_whB hTk]; simp) (by rw [wT_whB hTk]; simp [bytesD_app]))) (by repeat (first | exact trivial | refine And.intro (Nat.le_refl _) ?_ | refine And.intro trivial ?_ | refine And.intro (by show _ ≤ _; (first | omega | (simp only [LS] <;> omega))) ?_)) (by repeat (first | exact trivial | refine And.intro (one_ok (.own _ _ _ _ _ (Nat.le_refl _))) ?_ | refine And.intro (okp (by repeat (first | exact pu_plF _ _ | exact pu_bytes _ | exact pu_nil | exact pu_vs rfl | exact pu_map (fun _ => .v _) _ | exact pu_vals _ | refine pu_app ?_ ?_ | refine pu_cons (by exact pu_of rfl) ?_))) ?_))
    ·
      have p4 := c4
      try simp only [CN] at p4
      refine WC.exit (h4_ _ ?_)
      refine WC.seq fun Fh17_ h17_ => ?_
      have hke : k = T.length := by omega
      subst hke
      have hwT : wT T T.length = wordsF T := by show wordsF (T.take T.length) = _; rw [List.take_length]
      have hWc := encB_len10 (u := (wordsF T).length) (by omega)
      rw [hwT] at hbl
      have hwT2 : (wordsB (wT T T.length)).length = (wordsB (wordsF T)).length := by rw [hwT]
      have hwT3 : (whB (wordsF T) (T.take T.length)).length = (whB (wordsF T) T).length := by rw [List.take_length]
      refine WC.region ?_
      refine RG.op _ _ rfl rfl (o_move (.omp _ _) rfl) ?_
      refine RG.op _ _ rfl rfl ((o_len_omp rfl Try.underlying78 rfl rfl).cast (congrArg I64 (by show (((plF 0 (wT T T.length)).length : Nat) : Int) = _; rw [plF_len, hwT]))) ?_
      refine RG.op _ _ rfl rfl ((o_i64toU rfl Try.underlying3 Try.underlying69).cast (congrArg N64 (lenU (by omega)))) ?_
      refine RG.op _ _ rfl rfl (OpX.d (x_call Ty.cal54 (FunM.new1 (vputM_c [] _ (by first | omega | exact ubyte _ | (simp only [LS] <;> omega)) (by first | omega | exact ubyte _ | (simp only [LS] <;> omega))) ⟨.rd _ _, .v _, trivial⟩ (by repeat (first | exact pu_plF _ _ | exact pu_bytes _ | exact pu_nil | exact pu_vs rfl | exact pu_map (fun _ => .v _) _ | exact pu_vals _ | refine pu_app ?_ ?_ | refine pu_cons (by exact pu_of rfl) ?_))) ⟨.inr ⟨rfl, rfl⟩, .inl rfl, trivial⟩) (VLe.le (by repeat (first | exact trivial | refine And.intro (Nat.le_refl _) ?_ | refine And.intro trivial ?_ | refine And.intro (by show _ ≤ _; (first | omega | (simp only [LS] <;> omega))) ?_)))) ?_
      refine RG.op _ _ rfl rfl (o_assign (.own _ _ _ _ _) rfl) ?_
      refine RG.nil (h17_ _ ?_)
      refine WC.seq fun Fh18_ h18_ => ?_
      refine WC.frz 1 _ [(4, rdB (wordsB (wT T T.length)))] rfl (by repeat (first | exact pu_plF _ _ | exact pu_bytes _ | exact pu_nil | exact pu_vs rfl | exact pu_map (fun _ => .v _) _ | exact pu_vals _ | refine pu_app ?_ ?_ | refine pu_cons (by exact pu_of rfl) ?_)) ⟨.rowE rfl (by first | rfl | omega | simp) (by first | rfl | simp [bytesD]), trivial⟩ ?_
      refine WC.frz 2 _ [(5, rdB (whB (wordsF T) (T.take T.length)))] rfl (by repeat (first | exact pu_plF _ _ | exact pu_bytes _ | exact pu_nil | exact pu_vs rfl | exact pu_map (fun _ => .v _) _ | exact pu_vals _ | refine pu_app ?_ ?_ | refine pu_cons (by exact pu_of rfl) ?_)) ⟨.rowE rfl (by first | rfl | omega | simp) (by first | rfl | simp [bytesD]), trivial⟩ ?_
      refine WC.region ?_
      refine RG.op _ _ rfl rfl (o_move (.own _ _ _ _ _) rfl) ?_
      refine RG.op _ _ rfl rfl (o_move (.rd _ _) rfl) ?_
      refine RG.op _ _ rfl rfl (o_appT (Elem.of Try.underlying24 Ty.inf5 rfl (by decide)) rfl rfl rfl (by first | omega | exact ubyte _ | (simp only [LS] <;> omega)) (by first | omega | exact ubyte _ | (simp only [LS] <;> omega)) (by repeat (first | exact bytesD_one _ | exact one_nil | exact one_map (fun _ => rfl) _ | exact one_vals _ | refine one_app ?_ ?_ | refine one_cons rfl ?_)) (by first | omega | exact ubyte _ | (simp only [LS] <;> omega)) (by first | omega | exact ubyte _ | (simp only [LS] <;> omega))) ?_
      refine RG.op _ _ rfl rfl (o_move (.rd _ _) rfl) ?_
      refine RG.op _ _ rfl rfl (o_appT (Elem.of Try.underlying24 Ty.inf5 rfl (by decide)) rfl rfl rfl (by first | omega | exact ubyte _ | (simp only [LS] <;> omega)) (by first | omega | exact ubyte _ | (simp only [LS] <;> omega)) (by repeat (first | exact bytesD_one _ | exact one_nil | exact one_map (fun _ => rfl) _ | exact one_vals _ | refine one_app ?_ ?_ | refine one_cons rfl ?_)) (by first | omega | exact ubyte _ | (simp only [LS] <;> omega)) (by first | omega | exact ubyte _ | (simp only [LS] <;> omega))) ?_
      refine RG.op _ _ rfl rfl (o_assign (.own _ _ _ _ _) rfl) ?_
      refine RG.nil (h18_ _ ?_)
      refine WC.ret ?_
      exact Ends.r1 rfl (.tmp _ (.own _ _ _ _ _) rfl) (.tb rfl (by repeat (first | exact pu_plF _ _ | exact pu_bytes _ | exact pu_nil | exact pu_vs rfl | exact pu_map (fun _ => .v _) _ | exact pu_vals _ | refine pu_app ?_ ?_ | refine pu_cons (by exact pu_of rfl) ?_))) (by rw [← hT]; unfold txM; rw [hwT, List.take_length]; exact rd_eq (by simp; omega) (by simp [bytesD_app]))
end Go.Proofs.Ytpdjcfhmdeeikaa
namespace Go.Proofs.Ytpdjcfhmdeeikaa
open Go.RowKit Go.DL

/-! ### Words that are unlike -/
theorem fold_full : ∀ (l w : List Txt), (l.foldl addW w).length = w.length + l.length → l.foldl addW w = w ++ l
  | [], w, _ => by simp
  | t :: l, w, h => by
    have hb : ∀ (l w : List Txt), (l.foldl addW w).length ≤ w.length + l.length := by
      intro l
      induction l with
      | nil => intro w; exact Nat.le_refl _
      | cons t l ih =>
        intro w
        have h1 := ih (addW w t)
        have h2 : (addW w t).length ≤ w.length + 1 := by unfold addW; split; omega; simp
        rw [List.foldl_cons, List.length_cons]; omega
    rw [List.foldl_cons] at h ⊢
    have h1 := hb l (addW w t)
    rw [List.length_cons] at h
    have e : addW w t = w ++ [t] := by
      by_cases hm : t ∈ w
      · have : addW w t = w := by unfold addW; rw [if_pos hm]
        rw [this] at h h1; omega
      · unfold addW; rw [if_neg hm]
    rw [e] at h ⊢
    rw [fold_full l (w ++ [t]) (by rw [h]; simp; omega)]; simp
theorem words_full {W : List Txt} : (wordsF W).length = W.length ↔ wordsF W = W := by
  constructor
  · intro h
    have := fold_full W [] (by unfold wordsF at h; rw [h]; simp)
    simpa [wordsF] using this
  · intro h; rw [h]
theorem fold_nodup : ∀ (l w : List Txt), w.Nodup → (l.foldl addW w).Nodup
  | [], w, h => h
  | t :: l, w, h => by
    rw [List.foldl_cons]
    refine fold_nodup l _ ?_
    unfold addW
    split
    · exact h
    · rename_i hm
      rw [List.nodup_append]
      exact ⟨h, by simp, fun a ha b hb => by rw [List.mem_singleton] at hb; subst hb; intro e; subst e; exact hm ha⟩
theorem words_nodup (l : List Txt) : (wordsF l).Nodup := fold_nodup l [] List.nodup_nil
theorem fold_self : ∀ (l w : List Txt), (w ++ l).Nodup → l.foldl addW w = w ++ l
  | [], w, _ => by simp
  | t :: l, w, h => by
    have hm : ¬ t ∈ w := fun hw => by
      rw [List.nodup_append] at h
      exact h.2.2 t hw t (by simp) rfl
    rw [List.foldl_cons]
    have e : addW w t = w ++ [t] := by unfold addW; rw [if_neg hm]
    rw [e, fold_self l (w ++ [t]) (by simpa using h)]; simp
theorem words_self {W : List Txt} (h : W.Nodup) : wordsF W = W := by
  have := fold_self W [] (by simpa using h)
  simpa [wordsF] using this
/-- How many marks were new, and whether each new one was the next. -/
def sN (p : List Nat) : Nat × Bool := p.foldl (fun q i => if i = q.1 then (q.1 + 1, q.2) else if q.1 < i then (q.1, false) else q) (0, true)
theorem sN_snoc (p : List Nat) (i : Nat) : sN (p ++ [i]) = if i = (sN p).1 then ((sN p).1 + 1, (sN p).2) else if (sN p).1 < i then ((sN p).1, false) else sN p := by unfold sN; rw [List.foldl_append]; rfl
theorem nodup_at {W : List Txt} (h : W.Nodup) {i j : Nat} (hi : i < W.length) (hj : j < W.length) (e : W.getD i [] = W.getD j []) : i = j := by
  rw [List.getD_eq_getElem?_getD, List.getElem?_eq_getElem hi, List.getD_eq_getElem?_getD, List.getElem?_eq_getElem hj] at e
  have hp := List.pairwise_iff_getElem.1 h
  rcases Nat.lt_trichotomy i j with hlt | heq | hgt
  · exact absurd e (hp i j hi hj hlt)
  · exact heq
  · exact absurd e.symm (hp j i hj hi hgt)
theorem mem_takeD {W : List Txt} {i s : Nat} (h : i < s) (hi : i < W.length) : W.getD i [] ∈ W.take s := by
  rw [List.mem_iff_getElem?]
  refine ⟨i, ?_⟩
  rw [List.getElem?_take, if_pos h, List.getElem?_eq_getElem hi, List.getD_eq_getElem?_getD, List.getElem?_eq_getElem hi]; rfl
theorem not_takeD {W : List Txt} (hn : W.Nodup) {i s : Nat} (h : s ≤ i) (hi : i < W.length) : ¬ W.getD i [] ∈ W.take s := fun hm => by
  rw [List.mem_iff_getElem?] at hm
  obtain ⟨j, hj⟩ := hm
  rw [List.getElem?_take] at hj
  split at hj
  · rename_i hjs
    have hjl := (List.getElem?_eq_some_iff.1 hj).1
    have := nodup_at hn hi hjl (by rw [List.getD_eq_getElem?_getD (i := j), hj]; rfl)
    omega
  · cases hj
theorem take_succD {W : List Txt} {s : Nat} (h : s < W.length) : W.take (s + 1) = W.take s ++ [W.getD s []] := by
  rw [List.take_succ_eq_append_getElem h, List.getD_eq_getElem?_getD, List.getElem?_eq_getElem h]; rfl
abbrev atW (W : List Txt) (p : List Nat) : List Txt := p.map fun i => W.getD i []
theorem atW_snoc (W : List Txt) (p : List Nat) (i : Nat) : wordsF (atW W (p ++ [i])) = addW (wordsF (atW W p)) (W.getD i []) := by
  unfold atW; rw [List.map_append]; exact wordsF_snoc _ _
theorem rev_ind {α : Type} {m : List α → Prop} (h0 : m []) (hs : ∀ l a, m l → m (l ++ [a])) : ∀ l, m l := by
  intro l
  have : ∀ n (l : List α), l.length = n → m l := by
    intro n
    induction n with
    | zero => intro l h; rw [List.length_eq_zero_iff.1 h]; exact h0
    | succ n ih =>
      intro l h
      have hne : l ≠ [] := fun e => by rw [e] at h; cases h
      rw [← List.dropLast_concat_getLast hne]
      exact hs _ _ (ih _ (by rw [List.length_dropLast]; omega))
  exact this _ l rfl
theorem ord_fwd {W : List Txt} (hn : W.Nodup) : ∀ p : List Nat, (∀ i ∈ p, i < W.length) → (sN p).2 = true → wordsF (atW W p) = W.take (sN p).1 ∧ (sN p).1 ≤ W.length := by
  refine rev_ind ?_ ?_
  · intro _ _; exact ⟨by simp [atW, wordsF, sN], Nat.zero_le _⟩
  · intro p i ih hlt ho
    have hi : i < W.length := hlt i (by simp)
    rw [sN_snoc] at ho ⊢
    rw [atW_snoc]
    by_cases e1 : i = (sN p).1
    · rw [if_pos e1] at ho ⊢
      obtain ⟨h1, h2⟩ := ih (fun j hj => hlt j (by simp [hj])) ho
      rw [h1]
      refine ⟨?_, by show (sN p).1 + 1 ≤ _; omega⟩
      unfold addW
      rw [if_neg (not_takeD hn (by omega) hi), e1]
      exact (take_succD (by omega)).symm
    · rw [if_neg e1] at ho ⊢
      by_cases e2 : (sN p).1 < i
      · rw [if_pos e2] at ho; cases ho
      · rw [if_neg e2] at ho ⊢
        obtain ⟨h1, h2⟩ := ih (fun j hj => hlt j (by simp [hj])) ho
        rw [h1]
        refine ⟨?_, h2⟩
        unfold addW
        rw [if_pos (mem_takeD (by omega) hi)]
theorem ord_bwd {W : List Txt} (hn : W.Nodup) : ∀ p : List Nat, (∀ i ∈ p, i < W.length) → wordsF (atW W p) <+: W → (sN p).2 = true ∧ wordsF (atW W p) = W.take (sN p).1 ∧ (sN p).1 ≤ W.length := by
  refine rev_ind ?_ ?_
  · intro _ _; exact ⟨rfl, by simp [atW, wordsF, sN], Nat.zero_le _⟩
  · intro p i ih hlt hp
    have hi : i < W.length := hlt i (by simp)
    rw [atW_snoc] at hp
    obtain ⟨h0, h1, h2⟩ := ih (fun j hj => hlt j (by simp [hj])) ((addW_pre _ _).trans hp)
    rw [sN_snoc, atW_snoc]
    by_cases e1 : i = (sN p).1
    · rw [if_pos e1, h1]
      refine ⟨h0, ?_, by show (sN p).1 + 1 ≤ _; omega⟩
      unfold addW
      rw [if_neg (not_takeD hn (by omega) hi), e1]
      exact (take_succD (by omega)).symm
    · rw [if_neg e1]
      by_cases e2 : (sN p).1 < i
      · exfalso
        rw [h1] at hp
        unfold addW at hp
        rw [if_neg (not_takeD hn (by omega) hi)] at hp
        obtain ⟨r, hr⟩ := hp
        have hs : (sN p).1 < W.length := by omega
        have hl : (W.take (sN p).1).length = (sN p).1 := by rw [List.length_take]; omega
        have : W.getD (sN p).1 [] = W.getD i [] := by
          conv => lhs; rw [← hr]
          rw [List.append_assoc, List.getD_eq_getElem?_getD, List.getElem?_append_right (by omega), hl, Nat.sub_self]; rfl
        have := nodup_at hn hs hi this
        omega
      · rw [if_neg e2, h1]
        refine ⟨h0, ?_, h2⟩
        unfold addW
        rw [if_pos (mem_takeD (by omega) hi)]
theorem ord_iff {W : List Txt} {p : List Nat} (hlt : ∀ i ∈ p, i < W.length) : ((sN p).2 = true ∧ ¬ (sN p).1 < W.length ∧ (wordsF W).length = W.length) ↔ wordsF (atW W p) = W := by
  constructor
  · rintro ⟨h1, h2, h3⟩
    have hn : W.Nodup := by rw [← words_full.1 h3]; exact words_nodup W
    obtain ⟨h4, h5⟩ := ord_fwd hn p hlt h1
    rw [h4, List.take_of_length_le (by omega)]
  · intro h
    have hn : W.Nodup := by rw [← h]; exact words_nodup _
    obtain ⟨h1, h2, h3⟩ := ord_bwd hn p hlt (by rw [h]; exact List.prefix_refl _)
    refine ⟨h1, ?_, by rw [words_self hn]⟩
    intro h4
    have := congrArg List.length (h.symm.trans h2)
    rw [List.length_take] at this
    omega
/-! ### The program's look for like words -/
abbrev enD (q : List (Txt × Nat)) : List D := q.map fun x => .tup [.v (.string (strB x.1)), I64 (x.2 : Nat)]
def putE (q : List (Txt × Nat)) (t : Txt) (n : Nat) : List (Txt × Nat) := if t ∈ q.map Prod.fst then q.set (whM (q.map Prod.fst) t) (t, n) else q ++ [(t, n)]
theorem enD_keys (q : List (Txt × Nat)) : keysD (enD q) = (q.map Prod.fst).map fun t => Value.string (strB t) := by
  induction q with
  | nil => rfl
  | cons x q ih =>
    show Value.string (strB x.1) :: keysD (enD q) = _
    rw [ih]; rfl
theorem pu_enD (q : List (Txt × Nat)) : ∀ c ∈ enD q, Pure' c := fun c hc => by
  obtain ⟨x, _, rfl⟩ := List.mem_map.1 hc
  exact .tup _ (by simp; exact ⟨.v _, .v _⟩)
theorem putE_fst (q : List (Txt × Nat)) (t : Txt) (n : Nat) : (putE q t n).map Prod.fst = addW (q.map Prod.fst) t := by
  unfold putE addW
  by_cases h : t ∈ q.map Prod.fst
  · rw [if_pos h, if_pos h, List.map_set]
    have hw := wh_lt h
    obtain ⟨h1, h2⟩ := List.getElem?_eq_some_iff.1 hw.2
    conv => rhs; rw [← List.set_getElem_self h1]
    rw [h2]
  · rw [if_neg h, if_neg h, List.map_append]; rfl
section
variable {C : Ctx} {env : Nat → D} {H : Heap} {dst : Option Nat} {ty : TypeId} {pos : String} {after : Array Edge} {gu : Option (Nat × Bool)} {X Y Z : Operand}
theorem o_mapPut {id n : Nat} {q : List (Txt × Nat)} {t : Txt} {e : TypeId} (hx : ev env X = .omp id 0) (hy : ev env Y = S t) (hz : ev env Z = I64 (n : Nat)) (hb : H[id]? = some (some ⟨enD q, e, false, 0⟩)) : OpD Try.prog C ⟨dst, .mapUpdate 78 X Y Z, ty, pos, after, gu⟩ env H (.v undef) (H.set id (some ⟨enD (putE q t n), e, false, 0⟩)) := by
  by_cases h : t ∈ q.map Prod.fst
  · have hw := wh_lt h
    rw [List.getElem?_map] at hw
    obtain ⟨x, hx1, hx2⟩ := Option.map_eq_some_iff.1 hw.2
    have := o_mapSet (P := Try.prog) (C := C) (dst := dst) (ty := ty) (pos := pos) (after := after) (gu := gu) (whM (q.map Prod.fst) t) hx hy hz Try.underlying78 Try.underlying9 hb rfl (by show kFind _ _ (keysD (enD q)) 0 = _; rw [enD_keys]; have := find_hit 0 h; rwa [Nat.zero_add] at this) (d0 := I64 (x.2 : Nat)) (by show (enD q)[_]? = _; rw [List.getElem?_map, hx1, ← hx2]; rfl)
    have e2 : enD (putE q t n) = (enD q).set (whM (q.map Prod.fst) t) (.tup [.v (.string (strB t)), I64 (n : Nat)]) := by
      unfold putE
      rw [if_pos h]
      show List.map _ _ = (List.map _ _).set _ _
      rw [List.map_set]
    rw [e2]; exact this
  · have := o_mapNew (P := Try.prog) (C := C) (dst := dst) (ty := ty) (pos := pos) (after := after) (gu := gu) hx hy hz Try.underlying78 Try.underlying9 rfl hb rfl (by show kFind _ _ (keysD (enD q)) 0 = _; rw [enD_keys]; exact find_miss 0 h)
    have e2 : enD (putE q t n) = enD q ++ [.tup [.v (.string (strB t)), I64 (n : Nat)]] := by
      unfold putE
      rw [if_neg h]
      show List.map _ _ = List.map _ _ ++ _
      rw [List.map_append]; rfl
    rw [e2]; exact this
end
set_option maxHeartbeats 4000000 in
theorem unlike_c (W : List Txt) (hW : W.length ≤ 1099511627776) : Fun Try.prog 66 [rdS W] (· = Bo (decide ((wordsF W).length = W.length))) := by
  refine Fun.of Try.func66 rfl (Nat.le_of_ble_eq_true rfl) fun C => ?_
  refine WC.seq fun Fh1_ h1_ => ?_
  refine WC.region ?_
  refine RG.op _ _ rfl rfl (o_assign (.v _) rfl) ?_
  refine RG.nil (h1_ _ ?_)
  refine WC.seq fun Fh2_ h2_ => ?_
  refine WC.region ?_
  refine RG.op _ _ rfl rfl (o_makeMap trivial) ?_
  refine RG.op _ _ rfl rfl (o_assign (.omp _ _) rfl) ?_
  refine RG.nil (h2_ _ ?_)
  refine WC.seq fun Fh3_ h3_ => ?_
  refine WC.seq fun Fh4_ h4_ => ?_
  refine WC.region ?_
  refine RG.op _ _ rfl rfl (o_move (.rd _ _) rfl) ?_
  refine RG.op _ _ rfl rfl (o_len_rd rfl Try.underlying72) ?_
  refine RG.op _ _ rfl rfl (o_move (.v _) rfl) ?_
  refine RG.nil (h4_ _ ?_)
  refine WC.block ?_
  refine WC.loopU [4, 5, 9, 10, 11, 12, 13, 14, 15, 16, 17] (fun (p : Nat × List (Txt × Nat)) => [(9, I64 ((p.1 : Nat) : Int))]) (fun (p : Nat × List (Txt × Nat)) => [(0, some ⟨enD p.2, 78, false, 0⟩)]) (fun (p : Nat × List (Txt × Nat)) => p.1 ≤ W.length ∧ p.2.map Prod.fst = wordsF (W.take p.1)) (fun (p : Nat × List (Txt × Nat)) => W.length - p.1) (0, []) ⟨Nat.zero_le _, rfl⟩ ?lpa5_ ?lpb6_
  case lpa5_ =>
    exact .mk' ⟨⟨rfl, .v _⟩, trivial⟩ (same_refl _ _) (rfl) (by repeat (first | exact trivial | refine And.intro (Nat.le_refl _) ?_ | refine And.intro trivial ?_ | refine And.intro (by show _ ≤ _; (first | omega | (simp only [LS] <;> omega))) ?_)) (by repeat (first | exact trivial | refine And.intro (one_ok (.own _ _ _ _ _ (Nat.le_refl _))) ?_ | refine And.intro (okp (by repeat (first | exact pu_enD _ | exact pu_bytes _ | exact pu_nil | exact pu_vs rfl | exact pu_map (fun _ => .v _) _ | exact pu_vals _ | refine pu_app ?_ ?_ | refine pu_cons (by exact pu_of rfl) ?_))) ?_))
  case lpb6_ =>
    rintro p hI
    have hk1 := hI.1
    have hk2 := hI.2
    refine WC.seq fun Fh7_ h7_ => ?_
    refine WC.region ?_
    refine RG.op _ _ rfl rfl (o_ltI rfl rfl) ?_
    refine RG.nil (h7_ _ ?_)
    refine WC.seq fun Fh8_ h8_ => ?_
    refine WC.cond _ rfl (fun c3 => ?_) (fun c3 => ?_)
    ·
      have p3 := c3
      try simp only [CN] at p3
      have hkl : p.1 < W.length := by omega
      refine WC.skip (h8_ _ ?_)
      refine WC.seq fun Fh9_ h9_ => ?_
      refine WC.block ?_
      refine WC.seq fun Fh10_ h10_ => ?_
      refine WC.region ?_
      refine RG.op _ _ rfl rfl (o_move (.v _) rfl) ?_
      refine RG.op _ _ rfl rfl (o_ixn_M p.1 rfl rfl Try.underlying72 (sz_of Ty.inf9) (by first | omega | exact ubyte _ | (simp only [LS] <;> omega)) (by first | omega | exact ubyte _ | (simp only [LS] <;> omega))) ?_
      refine RG.op _ _ rfl rfl (o_load_adr rfl Try.underlying9 rfl rfl) ?_
      refine RG.op _ _ rfl rfl (o_assign (.v _) rfl) ?_
      refine RG.op _ _ rfl rfl (o_assign (.v _) rfl) ?_
      refine RG.nil (h10_ _ ?_)
      refine WC.region ?_
      refine RG.op _ _ rfl rfl (o_move (.omp _ _) rfl) ?_
      refine RG.op _ _ rfl rfl (o_move (.v _) rfl) ?_
      refine RG.op _ _ rfl rfl (o_move (.v _) rfl) ?_
      refine RG.op _ _ rfl rfl (o_mapPut (q := p.2) (t := W[p.1]'hkl) (n := p.1) rfl rfl rfl rfl) ?_
      refine RG.nil (h9_ _ ?_)
      refine WC.region ?_
      refine RG.op _ _ rfl rfl (o_add rfl rfl (by first | omega | exact ubyte _ | (simp only [LS] <;> omega)) (by first | omega | exact ubyte _ | (simp only [LS] <;> omega))) ?_
      refine RG.op _ _ rfl rfl (o_move (.v _) rfl) ?_
      refine RG.nil (Exists.intro ((p.1 + 1, putE p.2 (W[p.1]'hkl) p.1)) ⟨⟨by show p.1 + 1 ≤ _; omega, by show (putE _ _ _).map Prod.fst = wordsF (W.take (p.1 + 1)); rw [putE_fst, hk2, wordsF_take hkl]⟩, by show W.length - (p.1 + 1) < _; omega, ?_⟩)
      exact .mk' ⟨⟨rfl, .v _⟩, trivial⟩ (by repeat (first | with_reducible exact same_refl _ _ | with_reducible refine same_updO (by with_unfolding_all exact rfl) ?_ | with_reducible refine same_updN ?_ | with_reducible refine same_updL (by with_unfolding_all exact rfl) ?_ | with_reducible refine same_forget (by with_unfolding_all exact rfl) ?_)) (rfl) (by repeat (first | exact trivial | refine And.intro (Nat.le_refl _) ?_ | refine And.intro trivial ?_ | refine And.intro (by show _ ≤ _; (first | omega | (simp only [LS] <;> omega))) ?_)) (by repeat (first | exact trivial | refine And.intro (one_ok (.own _ _ _ _ _ (Nat.le_refl _))) ?_ | refine And.intro (okp (by repeat (first | exact pu_enD _ | exact pu_bytes _ | exact pu_nil | exact pu_vs rfl | exact pu_map (fun _ => .v _) _ | exact pu_vals _ | refine pu_app ?_ ?_ | refine pu_cons (by exact pu_of rfl) ?_))) ?_))
    ·
      have p3 := c3
      try simp only [CN] at p3
      refine WC.exit (h3_ _ ?_)
      refine WC.seq fun Fh11_ h11_ => ?_
      have hpl := congrArg List.length hk2
      rw [List.length_map, List.take_of_length_le (by omega)] at hpl
      refine WC.region ?_
      refine RG.op _ _ rfl rfl (o_move (.omp _ _) rfl) ?_
      refine RG.op _ _ rfl rfl ((o_len_omp rfl Try.underlying78 rfl rfl).cast (congrArg I64 (by show (((enD p.2).length : Nat) : Int) = _; rw [List.length_map, hpl]))) ?_
      refine RG.op _ _ rfl rfl (o_move (.rd _ _) rfl) ?_
      refine RG.op _ _ rfl rfl (o_len_rd rfl Try.underlying72) ?_
      refine RG.op _ _ rfl rfl (o_eqI rfl rfl) ?_
      refine RG.op _ _ rfl rfl (o_assign (.v _) rfl) ?_
      refine RG.nil (h11_ _ ?_)
      refine WC.ret ?_
      exact Ends.r1 rfl (.tmp _ (.v _) rfl) (.v _) (congrArg Bo (by rw [decide_eq_decide]; omega))
end Go.Proofs.Ytpdjcfhmdeeikaa
namespace Go.Proofs.Ytpdjcfhmdeeikaa
open Go.RowKit Go.DL

def vT (t : Txt) : Val := ⟨3, 0, t⟩
/-- Marks: which words they are. -/
def mkM (b : List UInt8) (W : List Txt) : Nat → Nat → List Nat → List Nat × Nat × Nat
  | 0, a, p => (p, a, 0)
  | m + 1, a, p => if ¬ (vget (b.drop a)).2.2 = 0 then ([], 0, (vget (b.drop a)).2.2) else if W.length ≤ (vget (b.drop a)).1 then ([], 0, 21) else mkM b W m (a + (vget (b.drop a)).2.1) (p ++ [(vget (b.drop a)).1])
section
variable {b : List UInt8} {W : List Txt} {n k a : Nat} {p : List Nat} {r : Nat × Nat × Nat}
theorem mkM_bad (h : k < n) (hr : r = vget (b.drop a)) (h1 : ¬ r.2.2 = 0) : mkM b W (n - k) a p = ([], 0, r.2.2) := by subst hr; rw [show n - k = (n - (k + 1)) + 1 by omega, mkM, if_pos h1]
theorem mkM_form (h : k < n) (hr : r = vget (b.drop a)) (h1 : r.2.2 = 0) (h2 : W.length ≤ r.1) : mkM b W (n - k) a p = ([], 0, 21) := by subst hr; rw [show n - k = (n - (k + 1)) + 1 by omega, mkM, if_neg (fun hh => hh h1), if_pos h2]
theorem mkM_step (h : k < n) (hr : r = vget (b.drop a)) (h1 : r.2.2 = 0) (h2 : ¬ W.length ≤ r.1) : mkM b W (n - k) a p = mkM b W (n - (k + 1)) (a + r.2.1) (p ++ [r.1]) := by subst hr; rw [show n - k = (n - (k + 1)) + 1 by omega, mkM, if_neg (fun hh => hh h1), if_neg h2]
theorem mkM_end (h : k = n) : mkM b W (n - k) a p = (p, a, 0) := by subst h; rw [Nat.sub_self]; rfl
end
def gmM (b : List UInt8) (W : List Txt) (n : Nat) : List Val × Nat :=
  if ¬ (mkM b W n 0 []).2.2 = 0 then ([], (mkM b W n 0 []).2.2) else if (mkM b W n 0 []).2.1 = b.length ∧ wordsF (atW W (mkM b W n 0 []).1) = W then ((atW W (mkM b W n 0 []).1).map vT, 0) else ([], 21)
theorem gmM_bad {b : List UInt8} {W : List Txt} {n e : Nat} (h : mkM b W n 0 [] = ([], 0, e)) (he : ¬ e = 0) : gmM b W n = ([], e) := by unfold gmM; rw [h, if_pos he]
theorem gmM_ok {b : List UInt8} {W : List Txt} {n a : Nat} {p : List Nat} (h : mkM b W n 0 [] = (p, a, 0)) (h1 : a = b.length) (h2 : wordsF (atW W p) = W) : gmM b W n = ((atW W p).map vT, 0) := by unfold gmM; rw [h, if_neg (fun hh => hh rfl), if_pos ⟨h1, h2⟩]
theorem gmM_no {b : List UInt8} {W : List Txt} {n a : Nat} {p : List Nat} (h : mkM b W n 0 [] = (p, a, 0)) (h1 : ¬ (a = b.length ∧ wordsF (atW W p) = W)) : gmM b W n = ([], 21) := by unfold gmM; rw [h, if_neg (fun hh => hh rfl), if_neg h1]
set_option maxRecDepth 20000 in
set_option maxHeartbeats 4000000 in
theorem gmarks_c (b : List UInt8) (n : Nat) (W : List Txt) (hb : b.length ≤ 10995116277760) (hn : n ≤ 65536) (hW : W.length ≤ 65536) : Fun Try.prog 56 [rdB b, I64 ((n : Nat) : Int), rdS W] (· = VL (gmM b W n)) := by
  refine Fun.of Try.func56 rfl (Nat.le_of_ble_eq_true rfl) fun C => ?_
  refine WC.seq fun Fh1_ h1_ => ?_
  refine WC.region ?_
  refine RG.op _ _ rfl rfl (o_assign (.v _) rfl) ?_
  refine RG.op _ _ rfl rfl (o_assign (.v _) rfl) ?_
  refine RG.nil (h1_ _ ?_)
  refine WC.seq fun Fh2_ h2_ => ?_
  refine WC.region ?_
  refine RG.op _ _ rfl rfl (o_move (.v _) rfl) ?_
  refine RG.op _ _ rfl rfl (o_makeT n n n rfl rfl Try.underlying22 Ty.inf36 rfl rfl (by omega) (by omega) (by omega) (by omega) (by omega)) ?_
  refine RG.op _ _ rfl rfl (o_assign (.own _ _ _ _ _) rfl) ?_
  refine RG.nil (h2_ _ ?_)
  refine WC.seq fun Fh3_ h3_ => ?_
  refine WC.region ?_
  refine RG.op _ _ rfl rfl (o_assign (.v _) rfl) ?_
  refine RG.op _ _ rfl rfl (o_assign (.v _) rfl) ?_
  refine RG.op _ _ rfl rfl (o_assign (.v _) rfl) ?_
  refine RG.nil (h3_ _ ?_)
  refine WC.seq fun Fh4_ h4_ => ?_
  refine WC.seq fun Fh5_ h5_ => ?_
  refine WC.region ?_
  refine RG.op _ _ rfl rfl (o_move (.own _ _ _ _ _) rfl) ?_
  refine RG.op _ _ rfl rfl (o_len_own rfl Try.underlying22) ?_
  refine RG.op _ _ rfl rfl (o_move (.v _) rfl) ?_
  refine RG.nil (h5_ _ ?_)
  refine WC.block ?_
  refine WC.loopU [6, 7, 9, 10, 11, 12, 13, 14, 15, 20, 21, 22, 23, 24, 25, 26, 27, 28, 29, 30, 31, 32, 33, 34, 35, 36, 37, 38, 39, 40, 41, 42, 43, 44, 45, 46, 47, 48, 49, 50, 51, 52, 53, 54, 55, 56, 57, 58, 59, 60] (fun (p : Nat × Nat × List Nat) => [(20, I64 ((p.1 : Nat) : Int)), (9, I64 ((p.2.1 : Nat) : Int)), (10, I64 (((sN p.2.2).1 : Nat) : Int)), (11, Bo (sN p.2.2).2)]) (fun (p : Nat × Nat × List Nat) => [(0, tb 36 n (((atW W p.2.2).map vT ++ List.replicate (n - p.1) z0).flatMap vc))]) (fun (p : Nat × Nat × List Nat) => p.1 ≤ n ∧ p.2.2.length = p.1 ∧ p.2.1 ≤ b.length ∧ mkM b W n 0 [] = mkM b W (n - p.1) p.2.1 p.2.2 ∧ (∀ i ∈ p.2.2, i < W.length) ∧ (sN p.2.2).1 ≤ p.1) (fun (p : Nat × Nat × List Nat) => n - p.1) (0, 0, []) ⟨Nat.zero_le _, rfl, Nat.zero_le _, rfl, fun i h => by simp at h, Nat.le_refl _⟩ ?lpa6_ ?lpb7_
  case lpa6_ =>
    exact .mk' ⟨⟨rfl, .v _⟩, ⟨rfl, .v _⟩, ⟨rfl, .v _⟩, ⟨rfl, .v _⟩, trivial⟩ (same_refl _ _) (congrArg (fun c => [c]) (tb_eq rfl (zs_vals rfl _))) (by repeat (first | exact trivial | refine And.intro (Nat.le_refl _) ?_ | refine And.intro trivial ?_ | refine And.intro (by show _ ≤ _; (first | omega | (simp only [LS] <;> omega))) ?_)) (by repeat (first | exact trivial | refine And.intro (one_ok (.own _ _ _ _ _ (Nat.le_refl _))) ?_ | refine And.intro (okp (by repeat (first | exact pu_bytes _ | exact pu_nil | exact pu_vs rfl | exact pu_map (fun _ => .v _) _ | exact pu_vals _ | refine pu_app ?_ ?_ | refine pu_cons (by exact pu_of rfl) ?_))) ?_))
  case lpb7_ =>
    rintro p hI
    have hk1 := hI.1
    have hk2 := hI.2.1
    have hk3 := hI.2.2.1
    have hk4 := hI.2.2.2.1
    have hk5 := hI.2.2.2.2.1
    have hk6 := hI.2.2.2.2.2
    obtain ⟨r, hr⟩ : ∃ r, r = vget (b.drop p.2.1) := ⟨_, rfl⟩
    have hv1 := vget_len5 (b.drop p.2.1)
    have hw1 := vget_lt (b.drop p.2.1)
    rw [List.length_drop, ← hr] at hv1
    rw [← hr] at hw1
    have hg1 := vgetE_c hr (by rw [List.length_drop]; omega)
    have hml : ((atW W p.2.2).map vT).length = p.1 := by rw [List.length_map, List.length_map, hk2]
    refine WC.seq fun Fh8_ h8_ => ?_
    refine WC.region ?_
    refine RG.op _ _ rfl rfl (o_ltI rfl rfl) ?_
    refine RG.nil (h8_ _ ?_)
    refine WC.seq fun Fh9_ h9_ => ?_
    refine WC.cond _ rfl (fun c4 => ?_) (fun c4 => ?_)
    ·
      have p4 := c4
      try simp only [CN] at p4
      have hlt : p.1 < n := by omega
      refine WC.skip (h9_ _ ?_)
      refine WC.seq fun Fh10_ h10_ => ?_
      refine WC.block ?_
      refine WC.seq fun Fh11_ h11_ => ?_
      refine WC.region ?_
      refine RG.op _ _ rfl rfl (o_move (.v _) rfl) ?_
      refine RG.op _ _ rfl rfl (o_assign (.v _) rfl) ?_
      refine RG.nil (h11_ _ ?_)
      refine WC.seq fun Fh12_ h12_ => ?_
      refine WC.region ?_
      refine RG.op _ _ rfl rfl (o_move (.rd _ _) rfl) ?_
      refine RG.op _ _ rfl rfl (o_move (.v _) rfl) ?_
      refine RG.op _ _ rfl rfl (o_dropM p.2.1 rfl rfl Try.underlying24 (sz_of Ty.inf5) (by first | omega | exact ubyte _ | (simp only [LS] <;> omega)) (by first | omega | exact ubyte _ | (simp only [LS] <;> omega))) ?_
      refine RG.op _ _ rfl rfl ((by exact o_call (ds := [rdB (b.drop p.2.1)]) Ty.cal55 hg1 ⟨.inl rfl, trivial⟩ (by exact pua rfl))) ?_
      refine RG.op _ _ rfl rfl (o_move (.tup _) rfl) ?_
      refine RG.op _ _ rfl rfl (o_extract rfl rfl) ?_
      refine RG.op _ _ rfl rfl (o_extract rfl rfl) ?_
      refine RG.op _ _ rfl rfl (o_extract rfl rfl) ?_
      refine RG.op _ _ rfl rfl (o_assign (.v _) rfl) ?_
      refine RG.op _ _ rfl rfl (o_assign (.v _) rfl) ?_
      refine RG.op _ _ rfl rfl (o_assign (.v _) rfl) ?_
      refine RG.nil (h12_ _ ?_)
      refine WC.seq fun Fh13_ h13_ => ?_
      refine WC.seq fun Fh14_ h14_ => ?_
      refine WC.region ?_
      refine RG.op _ _ rfl rfl (o_move (.v _) rfl) ?_
      refine RG.op _ _ rfl rfl (o_neI rfl rfl) ?_
      refine RG.nil (h14_ _ ?_)
      refine WC.cond _ rfl (fun c7 => ?_) (fun c7 => ?_)
      ·
        have p7 := c7
        try simp only [CN] at p7
        refine WC.seq fun Fh15_ h15_ => ?_
        refine WC.region ?_
        refine RG.op _ _ rfl rfl (o_move (.v _) rfl) ?_
        refine RG.op _ _ rfl rfl (o_assign (.v _) rfl) ?_
        refine RG.op _ _ rfl rfl (o_assign (.v _) rfl) ?_
        refine RG.nil (h15_ _ ?_)
        refine WC.ret ?_
        exact Ends.r2 rfl (.tmp _ (.v _) rfl) (.tmp _ (.v _) rfl) .nilr (.v _) (by rw [gmM_bad (hk4.trans (mkM_bad hlt hr (by omega))) (by omega)]; rfl)
      ·
        have p7 := c7
        try simp only [CN] at p7
        have hz1 : r.2.2 = 0 := by omega
        refine WC.skip (h13_ _ ?_)
        refine WC.seq fun Fh16_ h16_ => ?_
        refine WC.seq fun Fh17_ h17_ => ?_
        refine WC.region ?_
        refine RG.op _ _ rfl rfl (o_move (.v _) rfl) ?_
        refine RG.op _ _ rfl rfl (o_move (.rd _ _) rfl) ?_
        refine RG.op _ _ rfl rfl (o_len_rd rfl Try.underlying72) ?_
        refine RG.op _ _ rfl rfl (o_i64toU rfl Try.underlying3 Try.underlying69) ?_
        refine RG.op _ _ rfl rfl (o_geI rfl rfl) ?_
        refine RG.nil (h17_ _ ?_)
        refine WC.cond _ rfl (fun c9 => ?_) (fun c9 => ?_)
        ·
          have p9 := c9
          try simp only [CN] at p9
          refine WC.seq fun Fh18_ h18_ => ?_
          refine WC.region ?_
          refine RG.op _ _ rfl rfl (o_assign (.v _) rfl) ?_
          refine RG.op _ _ rfl rfl (o_assign (.v _) rfl) ?_
          refine RG.nil (h18_ _ ?_)
          refine WC.ret ?_
          exact Ends.r2 rfl (.tmp _ (.v _) rfl) (.tmp _ (.v _) rfl) .nilr (.v _) (by rw [gmM_bad (hk4.trans (mkM_form hlt hr hz1 (by omega))) (by decide)]; rfl)
        ·
          have p9 := c9
          try simp only [CN] at p9
          have hrW : r.1 < W.length := by omega
          have hgd : W.getD r.1 [] = W[r.1]'hrW := by rw [List.getD_eq_getElem?_getD, List.getElem?_eq_getElem hrW]; rfl
          have hsn2 : (atW W (p.2.2 ++ [r.1])).map vT = (atW W p.2.2).map vT ++ [vT (W[r.1]'hrW)] := by unfold atW; rw [List.map_append, List.map_append, ← hgd]; rfl
          have hsn := sN_snoc p.2.2 r.1
          refine WC.skip (h16_ _ ?_)
          refine WC.seq fun Fh19_ h19_ => ?_
          refine WC.region ?_
          refine RG.op _ _ rfl rfl (o_move (.v _) rfl) ?_
          refine RG.op _ _ rfl rfl (o_move (.v _) rfl) ?_
          refine RG.op _ _ rfl rfl (o_add rfl rfl (by first | omega | exact ubyte _ | (simp only [LS] <;> omega)) (by first | omega | exact ubyte _ | (simp only [LS] <;> omega))) ?_
          refine RG.op _ _ rfl rfl (o_assign (.v _) rfl) ?_
          refine RG.nil (h19_ _ ?_)
          refine WC.joinU [10, 11, 42, 43, 44, 45, 46, 47, 48, 49, 50, 51] (fun (u : Unit) => [(10, I64 (((sN (p.2.2 ++ [r.1])).1 : Nat) : Int)), (11, Bo (sN (p.2.2 ++ [r.1])).2)]) (fun (u : Unit) => []) (fun (u : Unit) => True) ?_ ?_
          ·
            refine WC.seq fun Fh20_ h20_ => ?_
            refine WC.region ?_
            refine RG.op _ _ rfl rfl (o_move (.v _) rfl) ?_
            refine RG.op _ _ rfl rfl (o_move (.v _) rfl) ?_
            refine RG.op _ _ rfl rfl (o_i64toU rfl Try.underlying3 Try.underlying69) ?_
            refine RG.op _ _ rfl rfl (o_eqI rfl rfl) ?_
            refine RG.nil (h20_ _ ?_)
            refine WC.cond _ rfl (fun c12 => ?_) (fun c12 => ?_)
            ·
              have p12 := c12
              try simp only [CN] at p12
              have hc12 : r.1 = (sN p.2.2).1 := by omega
              refine WC.region ?_
              refine RG.op _ _ rfl rfl (o_move (.v _) rfl) ?_
              refine RG.op _ _ rfl rfl (o_add rfl rfl (by first | omega | exact ubyte _ | (simp only [LS] <;> omega)) (by first | omega | exact ubyte _ | (simp only [LS] <;> omega))) ?_
              refine RG.op _ _ rfl rfl (o_assign (.v _) rfl) ?_
              refine RG.nil (Exists.intro (()) ⟨by first | omega | (simp only [LS] <;> omega), ?_⟩)
              exact .mk' ⟨⟨congrArg I64 (by rw [hsn, if_pos hc12]; rfl), .v _⟩, ⟨congrArg Bo (by rw [hsn, if_pos hc12]), .v _⟩, trivial⟩ (by repeat (first | with_reducible exact same_refl _ _ | with_reducible refine same_updO (by with_unfolding_all exact rfl) ?_ | with_reducible refine same_updN ?_ | with_reducible refine same_updL (by with_unfolding_all exact rfl) ?_ | with_reducible refine same_forget (by with_unfolding_all exact rfl) ?_)) (rfl) (by repeat (first | exact trivial | refine And.intro (Nat.le_refl _) ?_ | refine And.intro trivial ?_ | refine And.intro (by show _ ≤ _; (first | omega | (simp only [LS] <;> omega))) ?_)) (by repeat (first | exact trivial | refine And.intro (one_ok (.own _ _ _ _ _ (Nat.le_refl _))) ?_ | refine And.intro (okp (by repeat (first | exact pu_bytes _ | exact pu_nil | exact pu_vs rfl | exact pu_map (fun _ => .v _) _ | exact pu_vals _ | refine pu_app ?_ ?_ | refine pu_cons (by exact pu_of rfl) ?_))) ?_))
            ·
              have p12 := c12
              try simp only [CN] at p12
              have hc12 : ¬ r.1 = (sN p.2.2).1 := by omega
              refine WC.seq fun Fh21_ h21_ => ?_
              refine WC.region ?_
              refine RG.op _ _ rfl rfl (o_move (.v _) rfl) ?_
              refine RG.op _ _ rfl rfl (o_move (.v _) rfl) ?_
              refine RG.op _ _ rfl rfl (o_i64toU rfl Try.underlying3 Try.underlying69) ?_
              refine RG.op _ _ rfl rfl (o_gtI rfl rfl) ?_
              refine RG.nil (h21_ _ ?_)
              refine WC.cond _ rfl (fun c14 => ?_) (fun c14 => ?_)
              ·
                have p14 := c14
                try simp only [CN] at p14
                have hc14 : (sN p.2.2).1 < r.1 := by omega
                refine WC.region ?_
                refine RG.op _ _ rfl rfl (o_assign (.v _) rfl) ?_
                refine RG.nil (Exists.intro (()) ⟨by first | omega | (simp only [LS] <;> omega), ?_⟩)
                exact .mk' ⟨⟨congrArg I64 (by rw [hsn, if_neg hc12, if_pos hc14]), .v _⟩, ⟨congrArg Bo (by rw [hsn, if_neg hc12, if_pos hc14]), .v _⟩, trivial⟩ (by repeat (first | with_reducible exact same_refl _ _ | with_reducible refine same_updO (by with_unfolding_all exact rfl) ?_ | with_reducible refine same_updN ?_ | with_reducible refine same_updL (by with_unfolding_all exact rfl) ?_ | with_reducible refine same_forget (by with_unfolding_all exact rfl) ?_)) (rfl) (by repeat (first | exact trivial | refine And.intro (Nat.le_refl _) ?_ | refine And.intro trivial ?_ | refine And.intro (by show _ ≤ _; (first | omega | (simp only [LS] <;> omega))) ?_)) (by repeat (first | exact trivial | refine And.intro (one_ok (.own _ _ _ _ _ (Nat.le_refl _))) ?_ | refine And.intro (okp (by repeat (first | exact pu_bytes _ | exact pu_nil | exact pu_vs rfl | exact pu_map (fun _ => .v _) _ | exact pu_vals _ | refine pu_app ?_ ?_ | refine pu_cons (by exact pu_of rfl) ?_))) ?_))
              ·
                have p14 := c14
                try simp only [CN] at p14
                have hc14 : ¬ (sN p.2.2).1 < r.1 := by omega
                refine WC.skip (Exists.intro (()) ⟨by first | omega | (simp only [LS] <;> omega), ?_⟩)
                exact .mk' ⟨⟨congrArg I64 (by rw [hsn, if_neg hc12, if_neg hc14]), .v _⟩, ⟨congrArg Bo (by rw [hsn, if_neg hc12, if_neg hc14]), .v _⟩, trivial⟩ (by repeat (first | with_reducible exact same_refl _ _ | with_reducible refine same_updO (by with_unfolding_all exact rfl) ?_ | with_reducible refine same_updN ?_ | with_reducible refine same_updL (by with_unfolding_all exact rfl) ?_ | with_reducible refine same_forget (by with_unfolding_all exact rfl) ?_)) (rfl) (by repeat (first | exact trivial | refine And.intro (Nat.le_refl _) ?_ | refine And.intro trivial ?_ | refine And.intro (by show _ ≤ _; (first | omega | (simp only [LS] <;> omega))) ?_)) (by repeat (first | exact trivial | refine And.intro (one_ok (.own _ _ _ _ _ (Nat.le_refl _))) ?_ | refine And.intro (okp (by repeat (first | exact pu_bytes _ | exact pu_nil | exact pu_vs rfl | exact pu_map (fun _ => .v _) _ | exact pu_vals _ | refine pu_app ?_ ?_ | refine pu_cons (by exact pu_of rfl) ?_))) ?_))
          ·
            rintro u hI
            refine WC.region ?_
            refine RG.op _ _ rfl rfl (o_move (.own _ _ _ _ _) rfl) ?_
            refine RG.op _ _ rfl rfl (o_move (.v _) rfl) ?_
            refine RG.op _ _ rfl rfl (o_move (.rd _ _) rfl) ?_
            refine RG.op _ _ rfl rfl (o_move (.v _) rfl) ?_
            refine RG.op _ _ rfl rfl (o_ixn_M (r.1) rfl rfl Try.underlying72 (sz_of Ty.inf9) (by first | omega | exact ubyte _ | (simp only [LS] <;> omega)) (by first | omega | exact ubyte _ | (simp only [LS] <;> omega))) ?_
            refine RG.op _ _ rfl rfl (o_load_adr rfl Try.underlying9 rfl rfl) ?_
            refine RG.op _ _ rfl rfl (o_build (cs := [(B8 3), I64 0, (.v _)]) Try.underlying36 Ty.inf36 (Ty.pl36 Try.underlying36) rfl) ?_
            refine RG.op _ _ rfl rfl (o_ixn_own p.1 rfl rfl Try.underlying22 (sz_of Ty.inf36) (by omega) (by omega)) ?_
            refine RG.op _ _ rfl rfl (o_store (d := .agg [_, _, _]) rfl rfl rfl rfl (sz_of Ty.inf36) (by show 0 + p.1 * 3 + 3 ≤ (List.flatMap vc _).length; rw [flen, List.length_append, hml, List.length_replicate]; omega) rfl) ?_
            refine RG.nil (h10_ _ ?_)
            refine WC.region ?_
            refine RG.op _ _ rfl rfl (o_add rfl rfl (by first | omega | exact ubyte _ | (simp only [LS] <;> omega)) (by first | omega | exact ubyte _ | (simp only [LS] <;> omega))) ?_
            refine RG.op _ _ rfl rfl (o_move (.v _) rfl) ?_
            refine RG.nil (Exists.intro ((p.1 + 1, p.2.1 + r.2.1, p.2.2 ++ [r.1])) ⟨⟨by show p.1 + 1 ≤ _; omega, by simp; omega, by show p.2.1 + r.2.1 ≤ _; omega, hk4.trans (mkM_step hlt hr hz1 (by omega)), fun i hi => by rcases List.mem_append.1 hi with h | h; exact hk5 i h; (rw [List.mem_singleton] at h; omega), by show (sN (p.2.2 ++ [r.1])).1 ≤ p.1 + 1; rw [sN_snoc]; split; (show (sN p.2.2).1 + 1 ≤ _; omega); (split; (show (sN p.2.2).1 ≤ _; omega); omega)⟩, by show n - (p.1 + 1) < _; omega, ?_⟩)
            exact .mk' ⟨⟨rfl, .v _⟩, ⟨rfl, .v _⟩, ⟨rfl, .v _⟩, ⟨rfl, .v _⟩, trivial⟩ (by repeat (first | with_reducible exact same_refl _ _ | with_reducible refine same_updO (by with_unfolding_all exact rfl) ?_ | with_reducible refine same_updN ?_ | with_reducible refine same_updL (by with_unfolding_all exact rfl) ?_ | with_reducible refine same_forget (by with_unfolding_all exact rfl) ?_)) (congrArg (fun c => [c]) (tb_eq rfl (by rw [hsn2]; exact fill_val hlt hml (vT _)))) (by repeat (first | exact trivial | refine And.intro (Nat.le_refl _) ?_ | refine And.intro trivial ?_ | refine And.intro (by show _ ≤ _; (first | omega | (simp only [LS] <;> omega))) ?_)) (by repeat (first | exact trivial | refine And.intro (one_ok (.own _ _ _ _ _ (Nat.le_refl _))) ?_ | refine And.intro (okp (by repeat (first | exact pu_bytes _ | exact pu_nil | exact pu_vs rfl | exact pu_map (fun _ => .v _) _ | exact pu_vals _ | refine pu_app ?_ ?_ | refine pu_cons (by exact pu_of rfl) ?_))) ?_))
    ·
      have p4 := c4
      try simp only [CN] at p4
      have hen : p.1 = n := by omega
      refine WC.exit (h4_ _ ?_)
      refine WC.seq fun Fh22_ h22_ => ?_
      refine WC.seq fun Fh23_ h23_ => ?_
      refine WC.region ?_
      refine RG.op _ _ rfl rfl (o_move (.v _) rfl) ?_
      refine RG.op _ _ rfl rfl (o_move (.rd _ _) rfl) ?_
      refine RG.op _ _ rfl rfl (o_len_rd rfl Try.underlying24) ?_
      refine RG.op _ _ rfl rfl (o_ltI rfl rfl) ?_
      refine RG.op _ _ rfl rfl (o_move (.v _) rfl) ?_
      refine RG.opg1 _ _ _ _ _ rfl rfl rfl rfl rfl (fun hb => o_move (.v _) rfl) ?_
      refine RG.opg1 _ _ _ _ _ rfl rfl rfl rfl rfl (fun hb => o_not (gdT hb)) ?_
      refine RG.op _ _ rfl rfl (o_or _ _ rfl rfl rfl) ?_
      refine RG.op _ _ rfl rfl (o_move (.v _) rfl) ?_
      refine RG.opg1 _ _ _ _ _ rfl rfl rfl rfl rfl (fun hb => o_move (.v _) rfl) ?_
      refine RG.opg1 _ _ _ _ _ rfl rfl rfl rfl rfl (fun hb => o_move (.rd _ _) rfl) ?_
      refine RG.opg1 _ _ _ _ _ rfl rfl rfl rfl rfl (fun hb => o_len_rd (gdT hb) Try.underlying72) ?_
      refine RG.opg1 _ _ _ _ _ rfl rfl rfl rfl rfl (fun hb => o_ltI (gdT hb) (gdT hb)) ?_
      refine RG.op _ _ rfl rfl (o_or _ _ rfl rfl rfl) ?_
      refine RG.op _ _ rfl rfl (o_move (.v _) rfl) ?_
      refine RG.opg1 _ _ _ _ _ rfl rfl rfl rfl rfl (fun hb => o_move (.rd _ _) rfl) ?_
      refine RG.opg1 _ _ _ _ _ rfl rfl rfl rfl rfl (fun hb => o_call Ty.cal66 (unlike_c _ (by first | omega | exact ubyte _ | (have hb' := hb; simp only [CN] at hb'; omega) | (simp only [LS] <;> omega) | (have hb' := hb; simp only [CN] at hb'; simp only [LS]; omega))) ⟨.inl (gdT hb), trivial⟩ (by exact pua rfl)) ?_
      refine RG.opg1 _ _ _ _ _ rfl rfl rfl rfl rfl (fun hb => o_not (gdT hb)) ?_
      refine RG.op _ _ rfl rfl (o_or _ _ rfl rfl rfl) ?_
      refine RG.nil (h23_ _ ?_)
      refine WC.cond _ rfl (fun c18 => ?_) (fun c18 => ?_)
      ·
        have p18 := c18
        try simp only [CN] at p18
        refine WC.seq fun Fh24_ h24_ => ?_
        refine WC.region ?_
        refine RG.op _ _ rfl rfl (o_assign (.v _) rfl) ?_
        refine RG.op _ _ rfl rfl (o_assign (.v _) rfl) ?_
        refine RG.nil (h24_ _ ?_)
        refine WC.ret ?_
        exact Ends.r2 rfl (.tmp _ (.v _) rfl) (.tmp _ (.v _) rfl) .nilr (.v _) (by rw [gmM_no (hk4.trans (mkM_end hen)) (by rintro ⟨h1, h2⟩; obtain ⟨h3, h4, h5⟩ := (ord_iff hk5).2 h2; rcases p18 with ((h | h) | h) | h; omega; (rw [h3] at h; cases h); omega; exact h h5)]; rfl)
      ·
        have p18 := c18
        try simp only [CN] at p18
        refine WC.skip (h22_ _ ?_)
        refine WC.seq fun Fh25_ h25_ => ?_
        refine WC.region ?_
        refine RG.op _ _ rfl rfl (o_move (.own _ _ _ _ _) rfl) ?_
        refine RG.op _ _ rfl rfl (o_assign (.own _ _ _ _ _) rfl) ?_
        refine RG.op _ _ rfl rfl (o_assign (.v _) rfl) ?_
        refine RG.nil (h25_ _ ?_)
        refine WC.ret ?_
        exact Ends.r2 rfl (.tmp _ (.own _ _ _ _ _) rfl) (.tmp _ (.v _) rfl) (.tb rfl (by repeat (first | exact pu_bytes _ | exact pu_nil | exact pu_vs rfl | exact pu_map (fun _ => .v _) _ | exact pu_vals _ | refine pu_app ?_ ?_ | refine pu_cons (by exact pu_of rfl) ?_))) (.v _) (by rw [gmM_ok (hk4.trans (mkM_end hen)) (by omega) ((ord_iff hk5).1 ⟨p18.1.1.2, by omega, p18.2⟩)]; exact congrArg (fun c => D.tup [c, I64 0]) (rd_eq (by rw [hml]; omega) (by rw [hen, Nat.sub_self]; simp)))
end Go.Proofs.Ytpdjcfhmdeeikaa
namespace Go.Proofs.Ytpdjcfhmdeeikaa
open Go.RowKit Go.DL

/-- Words that bytes tell. -/
def wdM (b : List UInt8) : Nat → Nat → List Txt → List Txt × Nat × Nat
  | 0, a, w => (w, a, 0)
  | m + 1, a, w => if ¬ (vget (b.drop a)).2.2 = 0 then ([], 0, (vget (b.drop a)).2.2) else if b.length - (a + (vget (b.drop a)).2.1) < (vget (b.drop a)).1 then ([], 0, 20) else wdM b m (a + (vget (b.drop a)).2.1 + (vget (b.drop a)).1) (w ++ [(b.drop (a + (vget (b.drop a)).2.1)).take (vget (b.drop a)).1])
section
variable {b : List UInt8} {n k a : Nat} {w : List Txt} {r : Nat × Nat × Nat}
theorem wdM_bad (h : k < n) (hr : r = vget (b.drop a)) (h1 : ¬ r.2.2 = 0) : wdM b (n - k) a w = ([], 0, r.2.2) := by subst hr; rw [show n - k = (n - (k + 1)) + 1 by omega, wdM, if_pos h1]
theorem wdM_short (h : k < n) (hr : r = vget (b.drop a)) (h1 : r.2.2 = 0) (h2 : b.length - (a + r.2.1) < r.1) : wdM b (n - k) a w = ([], 0, 20) := by subst hr; rw [show n - k = (n - (k + 1)) + 1 by omega, wdM, if_neg (fun hh => hh h1), if_pos h2]
theorem wdM_step (h : k < n) (hr : r = vget (b.drop a)) (h1 : r.2.2 = 0) (h2 : ¬ b.length - (a + r.2.1) < r.1) : wdM b (n - k) a w = wdM b (n - (k + 1)) (a + r.2.1 + r.1) (w ++ [(b.drop (a + r.2.1)).take r.1]) := by subst hr; rw [show n - k = (n - (k + 1)) + 1 by omega, wdM, if_neg (fun hh => hh h1), if_neg h2]
theorem wdM_end (h : k = n) : wdM b (n - k) a w = (w, a, 0) := by subst h; rw [Nat.sub_self]; rfl
end
def getTl (b : List UInt8) (n : Nat) : List Val × Nat :=
  if ¬ (vget b).2.2 = 0 then ([], (vget b).2.2) else if n < (vget b).1 then ([], 21) else if ¬ (wdM b (vget b).1 (vget b).2.1 []).2.2 = 0 then ([], (wdM b (vget b).1 (vget b).2.1 []).2.2) else gmM (b.drop (wdM b (vget b).1 (vget b).2.1 []).2.1) (wdM b (vget b).1 (vget b).2.1 []).1 n
section
variable {b : List UInt8} {n a e : Nat} {w : List Txt} {h : Nat × Nat × Nat}
theorem getTl_bad (hh : h = vget b) (h1 : ¬ h.2.2 = 0) : getTl b n = ([], h.2.2) := by subst hh; unfold getTl; rw [if_pos h1]
theorem getTl_form (hh : h = vget b) (h1 : h.2.2 = 0) (h2 : n < h.1) : getTl b n = ([], 21) := by subst hh; unfold getTl; rw [if_neg (fun x => x h1), if_pos h2]
theorem getTl_wd (hh : h = vget b) (h1 : h.2.2 = 0) (h2 : ¬ n < h.1) (h3 : wdM b h.1 h.2.1 [] = ([], 0, e)) (he : ¬ e = 0) : getTl b n = ([], e) := by subst hh; unfold getTl; rw [if_neg (fun x => x h1), if_neg h2, h3, if_pos he]
theorem getTl_go (hh : h = vget b) (h1 : h.2.2 = 0) (h2 : ¬ n < h.1) (h3 : wdM b h.1 h.2.1 [] = (w, a, 0)) : getTl b n = gmM (b.drop a) w n := by subst hh; unfold getTl; rw [if_neg (fun x => x h1), if_neg h2, h3, if_neg (fun x => x rfl)]
end
set_option maxRecDepth 20000 in
set_option maxHeartbeats 4000000 in
theorem gtexts_c (b : List UInt8) (n : Nat) (hb : b.length ≤ 10995116277760) (hn : n ≤ 65536) : Fun Try.prog 40 [rdB b, I64 ((n : Nat) : Int)] (· = VL (getTl b n)) := by
  obtain ⟨h, hh⟩ : ∃ h, h = vget b := ⟨_, rfl⟩
  have hg0 := vgetE_c hh hb
  have hv0 := vget_len5 b
  have hw0 := vget_lt b
  rw [← hh] at hv0 hw0
  refine Fun.of Try.func40 rfl (Nat.le_of_ble_eq_true rfl) fun C => ?_
  refine WC.seq fun Fh1_ h1_ => ?_
  refine WC.region ?_
  refine RG.op _ _ rfl rfl (o_assign (.v _) rfl) ?_
  refine RG.op _ _ rfl rfl (o_assign (.v _) rfl) ?_
  refine RG.nil (h1_ _ ?_)
  refine WC.seq fun Fh2_ h2_ => ?_
  refine WC.region ?_
  refine RG.op _ _ rfl rfl (o_move (.rd _ _) rfl) ?_
  refine RG.op _ _ rfl rfl ((by exact o_call (ds := [rdB b]) Ty.cal55 hg0 ⟨.inl rfl, trivial⟩ (by exact pua rfl))) ?_
  refine RG.op _ _ rfl rfl (o_move (.tup _) rfl) ?_
  refine RG.op _ _ rfl rfl (o_extract rfl rfl) ?_
  refine RG.op _ _ rfl rfl (o_extract rfl rfl) ?_
  refine RG.op _ _ rfl rfl (o_extract rfl rfl) ?_
  refine RG.op _ _ rfl rfl (o_assign (.v _) rfl) ?_
  refine RG.op _ _ rfl rfl (o_assign (.v _) rfl) ?_
  refine RG.op _ _ rfl rfl (o_assign (.v _) rfl) ?_
  refine RG.nil (h2_ _ ?_)
  refine WC.seq fun Fh3_ h3_ => ?_
  refine WC.seq fun Fh4_ h4_ => ?_
  refine WC.region ?_
  refine RG.op _ _ rfl rfl (o_move (.v _) rfl) ?_
  refine RG.op _ _ rfl rfl (o_neI rfl rfl) ?_
  refine RG.nil (h4_ _ ?_)
  refine WC.cond _ rfl (fun c2 => ?_) (fun c2 => ?_)
  ·
    have p2 := c2
    try simp only [CN] at p2
    refine WC.seq fun Fh5_ h5_ => ?_
    refine WC.region ?_
    refine RG.op _ _ rfl rfl (o_move (.v _) rfl) ?_
    refine RG.op _ _ rfl rfl (o_assign (.v _) rfl) ?_
    refine RG.op _ _ rfl rfl (o_assign (.v _) rfl) ?_
    refine RG.nil (h5_ _ ?_)
    refine WC.ret ?_
    exact Ends.r2 rfl (.tmp _ (.v _) rfl) (.tmp _ (.v _) rfl) .nilr (.v _) (by rw [getTl_bad hh (by omega)]; rfl)
  ·
    have p2 := c2
    try simp only [CN] at p2
    have hz0 : h.2.2 = 0 := by omega
    refine WC.skip (h3_ _ ?_)
    refine WC.seq fun Fh6_ h6_ => ?_
    refine WC.seq fun Fh7_ h7_ => ?_
    refine WC.region ?_
    refine RG.op _ _ rfl rfl (o_move (.v _) rfl) ?_
    refine RG.op _ _ rfl rfl (o_move (.v _) rfl) ?_
    refine RG.op _ _ rfl rfl (o_i64toU rfl Try.underlying3 Try.underlying69) ?_
    refine RG.op _ _ rfl rfl (o_gtI rfl rfl) ?_
    refine RG.nil (h7_ _ ?_)
    refine WC.cond _ rfl (fun c4 => ?_) (fun c4 => ?_)
    ·
      have p4 := c4
      try simp only [CN] at p4
      refine WC.seq fun Fh8_ h8_ => ?_
      refine WC.region ?_
      refine RG.op _ _ rfl rfl (o_assign (.v _) rfl) ?_
      refine RG.op _ _ rfl rfl (o_assign (.v _) rfl) ?_
      refine RG.nil (h8_ _ ?_)
      refine WC.ret ?_
      exact Ends.r2 rfl (.tmp _ (.v _) rfl) (.tmp _ (.v _) rfl) .nilr (.v _) (by rw [getTl_form hh hz0 (by omega)]; rfl)
    ·
      have p4 := c4
      try simp only [CN] at p4
      have hc0 : ¬ n < h.1 := by omega
      refine WC.skip (h6_ _ ?_)
      refine WC.seq fun Fh9_ h9_ => ?_
      refine WC.region ?_
      refine RG.op _ _ rfl rfl (o_move (.v _) rfl) ?_
      refine RG.op _ _ rfl rfl (o_makeT 0 0 (h.1) rfl rfl Try.underlying72 Ty.inf9 rfl rfl (by first | omega | exact ubyte _ | (simp only [LS] <;> omega)) (by first | omega | exact ubyte _ | (simp only [LS] <;> omega)) (by first | omega | exact ubyte _ | (simp only [LS] <;> omega)) (by first | omega | exact ubyte _ | (simp only [LS] <;> omega)) (by first | omega | exact ubyte _ | (simp only [LS] <;> omega))) ?_
      refine RG.op _ _ rfl rfl (o_assign (.own _ _ _ _ _) rfl) ?_
      refine RG.nil (h9_ _ ?_)
      refine WC.seq fun Fh10_ h10_ => ?_
      refine WC.seq fun Fh11_ h11_ => ?_
      refine WC.region ?_
      refine RG.op _ _ rfl rfl (o_move (.v _) rfl) ?_
      refine RG.op _ _ rfl rfl (o_move (N64 0) rfl) ?_
      refine RG.nil (h11_ _ ?_)
      refine WC.block ?_
      refine WC.loopU [4, 5, 7, 9, 10, 11, 12, 29, 30, 31, 32, 33, 34, 35, 36, 37, 38, 39, 40, 41, 42, 43, 44, 45, 46, 47, 48, 49, 50, 51, 52, 53, 54, 55, 56, 57, 58, 59, 60, 61, 62, 63, 64, 65, 66, 67] (fun (p : Nat × Nat × List Txt) => [(29, N64 p.1), (7, I64 ((p.2.1 : Nat) : Int)), (9, ow 0 p.1 1)]) (fun (p : Nat × Nat × List Txt) => [(0, tb 9 p.1 (p.2.2.map S))]) (fun (p : Nat × Nat × List Txt) => p.1 ≤ h.1 ∧ p.2.2.length = p.1 ∧ p.2.1 ≤ b.length ∧ wdM b h.1 h.2.1 [] = wdM b (h.1 - p.1) p.2.1 p.2.2) (fun (p : Nat × Nat × List Txt) => h.1 - p.1) (0, h.2.1, []) ⟨Nat.zero_le _, rfl, hv0.1, (by show wdM b h.1 h.2.1 [] = wdM b (h.1 - 0) h.2.1 []; rw [Nat.sub_zero])⟩ ?lpa12_ ?lpb13_
      case lpa12_ =>
        exact .mk' ⟨⟨rfl, .v _⟩, ⟨rfl, .v _⟩, ⟨rfl, (by first | exact .own _ _ _ _ _ (Nat.le_refl _) | exact .ptr _ _ _ (Nat.le_refl _) | exact .omp _ _ (Nat.le_refl _))⟩, trivial⟩ (same_refl _ _) (rfl) (by repeat (first | exact trivial | refine And.intro (Nat.le_refl _) ?_ | refine And.intro trivial ?_ | refine And.intro (by show _ ≤ _; (first | omega | (simp only [LS] <;> omega))) ?_)) (by repeat (first | exact trivial | refine And.intro (one_ok (.own _ _ _ _ _ (Nat.le_refl _))) ?_ | refine And.intro (okp (by repeat (first | exact pu_bytes _ | exact pu_nil | exact pu_vs rfl | exact pu_map (fun _ => .v _) _ | exact pu_vals _ | refine pu_app ?_ ?_ | refine pu_cons (by exact pu_of rfl) ?_))) ?_))
      case lpb13_ =>
        rintro p hI
        have hk1 := hI.1
        have hk2 := hI.2.1
        have hk3 := hI.2.2.1
        have hk4 := hI.2.2.2
        have hr0 : ∃ r, r = vget (b.drop p.2.1) := Exists.intro (vget (b.drop p.2.1)) (Eq.refl _)
        obtain ⟨r, hr⟩ := hr0
        have hv1 := vget_len5 (b.drop p.2.1)
        have hw1 := vget_lt (b.drop p.2.1)
        rw [List.length_drop, ← hr] at hv1
        rw [← hr] at hw1
        have hg1 := vgetE_c hr (by rw [List.length_drop]; omega)
        refine WC.seq fun Fh14_ h14_ => ?_
        refine WC.region ?_
        refine RG.op _ _ rfl rfl (o_ltI rfl rfl) ?_
        refine RG.nil (h14_ _ ?_)
        refine WC.seq fun Fh15_ h15_ => ?_
        refine WC.cond _ rfl (fun c8 => ?_) (fun c8 => ?_)
        ·
          have p8 := c8
          try simp only [CN] at p8
          have hlt : p.1 < h.1 := by omega
          refine WC.skip (h15_ _ ?_)
          refine WC.seq fun Fh16_ h16_ => ?_
          refine WC.block ?_
          refine WC.seq fun Fh17_ h17_ => ?_
          refine WC.region ?_
          refine RG.op _ _ rfl rfl (o_move (.rd _ _) rfl) ?_
          refine RG.op _ _ rfl rfl (o_move (.v _) rfl) ?_
          refine RG.op _ _ rfl rfl (o_dropM p.2.1 rfl rfl Try.underlying24 (sz_of Ty.inf5) (by first | omega | exact ubyte _ | (simp only [LS] <;> omega)) (by first | omega | exact ubyte _ | (simp only [LS] <;> omega))) ?_
          refine RG.op _ _ rfl rfl ((by exact o_call (ds := [rdB (b.drop p.2.1)]) Ty.cal55 hg1 ⟨.inl rfl, trivial⟩ (by exact pua rfl))) ?_
          refine RG.op _ _ rfl rfl (o_move (.tup _) rfl) ?_
          refine RG.op _ _ rfl rfl (o_extract rfl rfl) ?_
          refine RG.op _ _ rfl rfl (o_extract rfl rfl) ?_
          refine RG.op _ _ rfl rfl (o_extract rfl rfl) ?_
          refine RG.op _ _ rfl rfl (o_assign (.v _) rfl) ?_
          refine RG.op _ _ rfl rfl (o_assign (.v _) rfl) ?_
          refine RG.op _ _ rfl rfl (o_assign (.v _) rfl) ?_
          refine RG.nil (h17_ _ ?_)
          refine WC.seq fun Fh18_ h18_ => ?_
          refine WC.seq fun Fh19_ h19_ => ?_
          refine WC.region ?_
          refine RG.op _ _ rfl rfl (o_move (.v _) rfl) ?_
          refine RG.op _ _ rfl rfl (o_neI rfl rfl) ?_
          refine RG.nil (h19_ _ ?_)
          refine WC.cond _ rfl (fun c10 => ?_) (fun c10 => ?_)
          ·
            have p10 := c10
            try simp only [CN] at p10
            refine WC.seq fun Fh20_ h20_ => ?_
            refine WC.region ?_
            refine RG.op _ _ rfl rfl (o_move (.v _) rfl) ?_
            refine RG.op _ _ rfl rfl (o_assign (.v _) rfl) ?_
            refine RG.op _ _ rfl rfl (o_assign (.v _) rfl) ?_
            refine RG.nil (h20_ _ ?_)
            refine WC.ret ?_
            exact Ends.r2 rfl (.tmp _ (.v _) rfl) (.tmp _ (.v _) rfl) .nilr (.v _) (by rw [getTl_wd hh hz0 hc0 (hk4.trans (wdM_bad hlt hr (by omega))) (by omega)]; rfl)
          ·
            have p10 := c10
            try simp only [CN] at p10
            have hz1 : r.2.2 = 0 := by omega
            refine WC.skip (h18_ _ ?_)
            refine WC.seq fun Fh21_ h21_ => ?_
            refine WC.region ?_
            refine RG.op _ _ rfl rfl (o_move (.v _) rfl) ?_
            refine RG.op _ _ rfl rfl (o_move (.v _) rfl) ?_
            refine RG.op _ _ rfl rfl (o_add rfl rfl (by first | omega | exact ubyte _ | (simp only [LS] <;> omega)) (by first | omega | exact ubyte _ | (simp only [LS] <;> omega))) ?_
            refine RG.op _ _ rfl rfl (o_assign (.v _) rfl) ?_
            refine RG.nil (h21_ _ ?_)
            refine WC.seq fun Fh22_ h22_ => ?_
            refine WC.seq fun Fh23_ h23_ => ?_
            refine WC.region ?_
            refine RG.op _ _ rfl rfl (o_move (.v _) rfl) ?_
            refine RG.op _ _ rfl rfl (o_move (.rd _ _) rfl) ?_
            refine RG.op _ _ rfl rfl (o_len_rd rfl Try.underlying24) ?_
            refine RG.op _ _ rfl rfl (o_move (.v _) rfl) ?_
            refine RG.op _ _ rfl rfl (o_sub rfl rfl (by first | omega | exact ubyte _ | (simp only [LS] <;> omega)) (by first | omega | exact ubyte _ | (simp only [LS] <;> omega))) ?_
            refine RG.op _ _ rfl rfl (o_i64toU rfl Try.underlying3 Try.underlying69) ?_
            refine RG.op _ _ rfl rfl (o_gtI rfl rfl) ?_
            refine RG.nil (h23_ _ ?_)
            refine WC.cond _ rfl (fun c13 => ?_) (fun c13 => ?_)
            ·
              have p13 := c13
              try simp only [CN] at p13
              refine WC.seq fun Fh24_ h24_ => ?_
              refine WC.region ?_
              refine RG.op _ _ rfl rfl (o_assign (.v _) rfl) ?_
              refine RG.op _ _ rfl rfl (o_assign (.v _) rfl) ?_
              refine RG.nil (h24_ _ ?_)
              refine WC.ret ?_
              exact Ends.r2 rfl (.tmp _ (.v _) rfl) (.tmp _ (.v _) rfl) .nilr (.v _) (by rw [getTl_wd hh hz0 hc0 (hk4.trans (wdM_short hlt hr hz1 (by omega))) (by decide)]; rfl)
            ·
              have p13 := c13
              try simp only [CN] at p13
              have hrb : r.1 ≤ b.length - (p.2.1 + r.2.1) := by omega
              have hsg : sgn r.1 = ((r.1 : Nat) : Int) := by unfold sgn; rw [if_pos (by omega)]
              refine WC.skip (h22_ _ ?_)
              refine WC.seq fun Fh25_ h25_ => ?_
              refine WC.region ?_
              refine RG.op _ _ rfl rfl (o_move (.own _ _ _ _ _) rfl) ?_
              refine RG.op _ _ rfl rfl (o_move (.rd _ _) rfl) ?_
              refine RG.op _ _ rfl rfl (o_move (.v _) rfl) ?_
              refine RG.op _ _ rfl rfl (o_move (.v _) rfl) ?_
              refine RG.op _ _ rfl rfl (o_move (.v _) rfl) ?_
              refine RG.op _ _ rfl rfl (o_UtoI64 rfl (by first | omega | exact ubyte _ | (simp only [LS] <;> omega)) Try.underlying69 Try.underlying3) ?_
              refine RG.op _ _ rfl rfl ((o_add rfl rfl (by omega) (by omega)).cast (congrArg I64 (show ((p.2.1 + r.2.1 : Nat) : Int) + sgn r.1 = ((p.2.1 + r.2.1 + r.1 : Nat) : Int) by omega))) ?_
              refine RG.op _ _ rfl rfl (o_partM (l := b) (g := fun b => U8 b.toBitVec) (p.2.1 + r.2.1) (p.2.1 + r.2.1 + r.1) rfl rfl rfl Try.underlying24 (sz_of Ty.inf5) (by omega) (by omega) (by omega) (by omega)) ?_
              refine RG.op _ _ rfl rfl (o_str_rd rfl Try.underlying24 Try.underlying5 Try.underlying9) ?_
              refine RG.op _ _ rfl rfl (o_litP (cs := [(.v _)]) Try.underlying72 Ty.inf9 rfl rfl rfl rfl (by repeat (first | exact pu_bytes _ | exact pu_nil | exact pu_vs rfl | exact pu_map (fun _ => .v _) _ | exact pu_vals _ | refine pu_app ?_ ?_ | refine pu_cons (by exact pu_of rfl) ?_))) ?_
              refine RG.op _ _ rfl rfl (o_appT (Elem.of Try.underlying72 Ty.inf9 rfl (by decide)) rfl rfl rfl (by first | omega | exact ubyte _ | (simp only [LS] <;> omega)) (by first | omega | exact ubyte _ | (simp only [LS] <;> omega)) (by repeat (first | exact bytesD_one _ | exact one_nil | exact one_map (fun _ => rfl) _ | exact one_vals _ | refine one_app ?_ ?_ | refine one_cons rfl ?_)) (by first | omega | exact ubyte _ | (simp only [LS] <;> omega)) (by first | omega | exact ubyte _ | (simp only [LS] <;> omega))) ?_
              refine RG.op _ _ rfl rfl (o_assign (.own _ _ _ _ _) rfl) ?_
              refine RG.nil (h25_ _ ?_)
              refine WC.region ?_
              refine RG.op _ _ rfl rfl (o_move (.v _) rfl) ?_
              refine RG.op _ _ rfl rfl (o_move (.v _) rfl) ?_
              refine RG.op _ _ rfl rfl (o_UtoI64 rfl (by first | omega | exact ubyte _ | (simp only [LS] <;> omega)) Try.underlying69 Try.underlying3) ?_
              refine RG.op _ _ rfl rfl ((o_add rfl rfl (by omega) (by omega)).cast (congrArg I64 (show ((p.2.1 + r.2.1 : Nat) : Int) + sgn r.1 = ((p.2.1 + r.2.1 + r.1 : Nat) : Int) by omega))) ?_
              refine RG.op _ _ rfl rfl (o_assign (.v _) rfl) ?_
              refine RG.nil (h16_ _ ?_)
              refine WC.region ?_
              refine RG.op _ _ rfl rfl (o_addU (b := 1) rfl rfl) ?_
              refine RG.op _ _ rfl rfl (o_move (.v _) rfl) ?_
              refine RG.nil (Exists.intro ((p.1 + 1, p.2.1 + r.2.1 + r.1, p.2.2 ++ [(b.drop (p.2.1 + r.2.1)).take r.1])) ⟨⟨by show p.1 + 1 ≤ _; omega, by simp; omega, by show p.2.1 + r.2.1 + r.1 ≤ _; omega, hk4.trans (wdM_step hlt hr hz1 (by omega))⟩, by show h.1 - (p.1 + 1) < _; omega, ?_⟩)
              exact .mk' ⟨⟨congrArg N64 (Nat.mod_eq_of_lt (by omega)), .v _⟩, ⟨rfl, .v _⟩, ⟨rfl, (by first | exact .own _ _ _ _ _ (Nat.le_refl _) | exact .ptr _ _ _ (Nat.le_refl _) | exact .omp _ _ (Nat.le_refl _))⟩, trivial⟩ (by repeat (first | with_reducible exact same_refl _ _ | with_reducible refine same_updO (by with_unfolding_all exact rfl) ?_ | with_reducible refine same_updN ?_ | with_reducible refine same_updL (by with_unfolding_all exact rfl) ?_ | with_reducible refine same_forget (by with_unfolding_all exact rfl) ?_)) (congrArg (fun c => [c]) (tb_eq rfl (by rw [Nat.add_sub_cancel_left]; simp))) (by repeat (first | exact trivial | refine And.intro (Nat.le_refl _) ?_ | refine And.intro trivial ?_ | refine And.intro (by show _ ≤ _; (first | omega | (simp only [LS] <;> omega))) ?_)) (by repeat (first | exact trivial | refine And.intro (one_ok (.own _ _ _ _ _ (Nat.le_refl _))) ?_ | refine And.intro (okp (by repeat (first | exact pu_bytes _ | exact pu_nil | exact pu_vs rfl | exact pu_map (fun _ => .v _) _ | exact pu_vals _ | refine pu_app ?_ ?_ | refine pu_cons (by exact pu_of rfl) ?_))) ?_))
        ·
          have p8 := c8
          try simp only [CN] at p8
          have hen : p.1 = h.1 := by omega
          refine WC.exit (h10_ _ ?_)
          refine WC.seq fun Fh26_ h26_ => ?_
          refine WC.frz 0 _ [(9, rdS p.2.2)] rfl (by repeat (first | exact pu_bytes _ | exact pu_nil | exact pu_vs rfl | exact pu_map (fun _ => .v _) _ | exact pu_vals _ | refine pu_app ?_ ?_ | refine pu_cons (by exact pu_of rfl) ?_)) ⟨.rowE rfl (by first | rfl | omega | simp) (by first | rfl | simp [bytesD]), trivial⟩ ?_
          refine WC.region ?_
          refine RG.op _ _ rfl rfl (o_move (.rd _ _) rfl) ?_
          refine RG.op _ _ rfl rfl (o_move (.v _) rfl) ?_
          refine RG.op _ _ rfl rfl (o_dropM p.2.1 rfl rfl Try.underlying24 (sz_of Ty.inf5) (by first | omega | exact ubyte _ | (simp only [LS] <;> omega)) (by first | omega | exact ubyte _ | (simp only [LS] <;> omega))) ?_
          refine RG.op _ _ rfl rfl (o_move (.v _) rfl) ?_
          refine RG.op _ _ rfl rfl (o_move (.rd _ _) rfl) ?_
          refine RG.op _ _ rfl rfl (o_call Ty.cal56 (gmarks_c (b.drop p.2.1) n p.2.2 (by rw [List.length_drop]; omega) hn (by omega)) ⟨.inl rfl, .inl rfl, .inl rfl, trivial⟩ (by exact pua rfl)) ?_
          refine RG.op _ _ rfl rfl (o_extract rfl rfl) ?_
          refine RG.op _ _ rfl rfl (o_extract rfl rfl) ?_
          refine RG.op _ _ rfl rfl (o_assign (.rd _ _) rfl) ?_
          refine RG.op _ _ rfl rfl (o_assign (.v _) rfl) ?_
          refine RG.nil (h26_ _ ?_)
          refine WC.ret ?_
          exact Ends.r2 rfl (.tmp _ (.rd _ _) rfl) (.tmp _ (.v _) rfl) (.rd _ _) (.v _) (by rw [getTl_go hh hz0 hc0 (hk4.trans (wdM_end hen))])
end Go.Proofs.Ytpdjcfhmdeeikaa

