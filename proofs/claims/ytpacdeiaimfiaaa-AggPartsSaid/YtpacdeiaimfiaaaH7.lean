/-
  Layer agg: a state to which pairs were fed. No condition but the pairs' number.
-/
import Derived.Test.YtpacdeiaimfiaaaH6
import Derived.Test.YtpacdeiaimfiaaaDlU
set_option linter.unusedSimpArgs false
set_option linter.unusedVariables false
namespace Go.Proofs.Ytpacdeiaimfiaaa
open Go.RowKit Go.DL
set_option maxRecDepth 8000

theorem new2 {P : Program} {f : FuncId} {ds : List D} {H : Heap} {d0 d : D} {e1 e2 : TypeId} {cs1 cs2 : List D} (h : FunM P f ds [] fun o H' => o = .ret d0 ∧ H' = [some ⟨cs1, e1, false, 0⟩, some ⟨cs2, e2, false, 0⟩]) (hp : PureAll ds) (h1 : ∀ c ∈ cs1, Pure' c) (h2 : ∀ c ∈ cs2, Pure' c) (hd : Ren (rho [] H.length) d0 d) :
    FunM P f ds H fun o H'' => o = .ret d ∧ H'' = H ++ [some ⟨cs1, e1, false, 0⟩, some ⟨cs2, e2, false, 0⟩] := by
  have hds : All2 (Ren (rho [] H.length)) ds ds := by
    have := hp.at
    clear h hp hd
    induction ds with
    | nil => trivial
    | cons d ds ih => exact ⟨.pure d (this d (by simp)), ih fun c hc => this c (by simp [hc])⟩
  exact FunM.frame [] [] [] [some ⟨cs1, e1, false, 0⟩, some ⟨cs2, e2, false, 0⟩] h (by simp) trivial trivial hds rfl ⟨.pure h1, .pure h2, trivial⟩ hd rfl
theorem ren2 {H : Heap} {n : Nat} (hn : n = H.length + 1) : Ren (rho [] H.length) (.ptr 1 0 0) (.ptr n 0 0) := .ptr _ _ _ (by subst hn; simp [rho])
theorem new_at (op : UInt8) (hc : aggB op = true) {H : Heap} (n : Nat) (hn : n = H.length + 1) : FunM Try.prog 9 [B8 op] H fun o H'' => o = .ret (.tup [.ptr n 0 0, I64 0]) ∧ H'' = H ++ [wb op, sb op (st0 op)] :=
  new2 (new_c op hc) ⟨.v _, trivial⟩ (pu_vs rfl) (pu_vs rfl) (.tup' ⟨ren2 hn, .pure _ (.v _), trivial⟩)

def feedM (op : UInt8) (a b : Val) (s : St) : St :=
  if op = 21 then moreM 1 0 s else if op = 22 then (if a.k = 0 then s else moreM 1 0 s) else if op = 23 ∨ op = 26 then (if a.k = 2 then moreM 1 a.i s else s)
  else if op = 24 then (if a.k = 0 then s else pickM (-1) a z0 s) else if op = 25 then (if a.k = 0 then s else pickM 1 a z0 s)
  else if op = 27 then (if b.k = 2 then pickM (-1) a b s else s) else (if b.k = 2 then pickM 1 a b s else s)
def addM (op : UInt8) (o s : St) : St :=
  if op = 24 then (if o.has = true then pickM (-1) o.best o.by' s else s) else if op = 25 then (if o.has = true then pickM 1 o.best o.by' s else s)
  else if op = 27 then (if o.has = true then pickM (-1) o.best o.by' s else s) else if op = 28 then (if o.has = true then pickM 1 o.best o.by' s else s) else moreM o.n o.z s
def ansM (op : UInt8) (s : St) : Val × Int := if op = 21 ∨ op = 22 then (⟨2, s.n, []⟩, 0) else if op = 23 then totM s else if op = 26 then midM s else pkM s
theorem cal1 {op : UInt8} (hc : aggB op = true) : DL.Callee Try.prog (fN1 op) := by
  rcases aggB_cases hc with rfl | rfl | rfl | rfl | rfl | rfl | rfl | rfl
  · exact Ty.cal23
  · exact Ty.cal26
  · exact Ty.cal27
  · exact Ty.cal27
  · exact Ty.cal30
  · exact Ty.cal33
  · exact Ty.cal35
  · exact Ty.cal37
theorem cal2 {op : UInt8} (hc : aggB op = true) : DL.Callee Try.prog (fN2 op) := by
  rcases aggB_cases hc with rfl | rfl | rfl | rfl | rfl | rfl | rfl | rfl
  · exact Ty.cal24
  · exact Ty.cal24
  · exact Ty.cal24
  · exact Ty.cal24
  · exact Ty.cal31
  · exact Ty.cal34
  · exact Ty.cal36
  · exact Ty.cal38
theorem cal3 {op : UInt8} (hc : aggB op = true) : DL.Callee Try.prog (fN3 op) := by
  rcases aggB_cases hc with rfl | rfl | rfl | rfl | rfl | rfl | rfl | rfl
  · exact Ty.cal25
  · exact Ty.cal25
  · exact Ty.cal28
  · exact Ty.cal29
  · exact Ty.cal32
  · exact Ty.cal32
  · exact Ty.cal32
  · exact Ty.cal32
section
variable (s o : St) (ar : Int) (f1 f2 f3 : Nat) (ar' : Int) (g1 g2 g3 : Nat) (a b : Val)
abbrev inIv (v : Val) : Prop := -9223372036854775808 ≤ v.i ∧ v.i ≤ 9223372036854775807
theorem room1 {s : St} {x : Int} (hr : Room s) (hn : s.n + 1 ≤ 1099511627776) (hx : -9223372036854775808 ≤ x ∧ x ≤ 9223372036854775807) : Room (moreM 1 x s) := by
  obtain ⟨h1, h2, h3⟩ := hr
  refine ⟨hn, ?_, ?_⟩ <;> (simp only [moreM]; omega)
theorem feed_any (op : UInt8) (hc : aggB op = true) (hr : Room s) (hn : s.n + 1 ≤ 1099511627776) (ha : inIv a) : FunM Try.prog (fN1 op) [.ptr 0 0 0, VD a, VD b] [stb s ar f1 f2 f3] (FQ (feedM op a b s) ar f1 f2 f3) := by
  have h0 := room1 (x := 0) hr hn (by omega)
  have h1 := room1 hr hn ha
  rcases aggB_cases hc with rfl | rfl | rfl | rfl | rfl | rfl | rfl | rfl
  · exact feedAny_c s ar f1 f2 f3 a b hr h0
  · exact feedSome_c s ar f1 f2 f3 a b hr h0
  · exact feedInt_c s ar f1 f2 f3 a b hr ha fun _ => h1
  · exact feedInt_c s ar f1 f2 f3 a b hr ha fun _ => h1
  · exact feedLess_c s ar f1 f2 f3 a b
  · exact feedMore_c s ar f1 f2 f3 a b
  · exact feedFirst_c s ar f1 f2 f3 a b
  · exact feedLast_c s ar f1 f2 f3 a b
theorem add_any (op : UInt8) (hc : aggB op = true) (hr : Room s) (ho : Room o) (hn : s.n + o.n ≤ 1099511627776) : FunM Try.prog (fN2 op) [.ptr 0 0 0, .adr (stc o ar' g1 g2 g3)] [stb s ar f1 f2 f3] (FQ (addM op o s) ar f1 f2 f3) := by
  have h0 : Room (moreM o.n o.z s) := by
    obtain ⟨h1, h2, h3⟩ := hr
    obtain ⟨q1, q2, q3⟩ := ho
    refine ⟨hn, ?_, ?_⟩ <;> (simp only [moreM]; omega)
  rcases aggB_cases hc with rfl | rfl | rfl | rfl | rfl | rfl | rfl | rfl
  · exact addSum_c s o ar f1 f2 f3 ar' g1 g2 g3 hr ho h0
  · exact addSum_c s o ar f1 f2 f3 ar' g1 g2 g3 hr ho h0
  · exact addSum_c s o ar f1 f2 f3 ar' g1 g2 g3 hr ho h0
  · exact addSum_c s o ar f1 f2 f3 ar' g1 g2 g3 hr ho h0
  · exact addLess_c s o ar f1 f2 f3 ar' g1 g2 g3
  · exact addMore_c s o ar f1 f2 f3 ar' g1 g2 g3
  · exact addFirst_c s o ar f1 f2 f3 ar' g1 g2 g3
  · exact addLast_c s o ar f1 f2 f3 ar' g1 g2 g3
theorem ans_any (op : UInt8) (hc : aggB op = true) (hr : Room s) : FunM Try.prog (fN3 op) [.ptr 0 0 0] [stb s ar f1 f2 f3] (AQ s ar f1 f2 f3 (ansM op s)) := by
  rcases aggB_cases hc with rfl | rfl | rfl | rfl | rfl | rfl | rfl | rfl
  · exact number_c s ar f1 f2 f3 hr
  · exact number_c s ar f1 f2 f3 hr
  · exact total_c s ar f1 f2 f3 hr
  · exact middle_c s ar f1 f2 f3 hr
  · exact picked_c s ar f1 f2 f3
  · exact picked_c s ar f1 f2 f3
  · exact picked_c s ar f1 f2 f3
  · exact picked_c s ar f1 f2 f3
end
theorem feed_s (op : UInt8) (s : St) (a b : Val) (hc : aggB op = true) (hr : Room s) (hn : s.n + 1 ≤ 1099511627776) (ha : inIv a) : FunM Try.prog 7 [.ptr 0 0 0, VD a, VD b] [sb op s] (fun o H' => o = .ret (.tup []) ∧ H' = [sb op (feedM op a b s)]) :=
  feed_c s (feedM op a b s) (arN op) (fN1 op) (fN2 op) (fN3 op) a b (cal1 hc) (feed_any s (arN op) (fN1 op) (fN2 op) (fN3 op) a b op hc hr hn ha)
theorem ans_s (op : UInt8) (s : St) (hc : aggB op = true) (hr : Room s) : FunM Try.prog 8 [.ptr 0 0 0] [sb op s] (fun o H' => o = .ret (AD (ansM op s)) ∧ H' = [sb op s]) :=
  answer_c s (arN op) (fN1 op) (fN2 op) (fN3 op) (ansM op s) (cal3 hc) (ans_any s (arN op) (fN1 op) (fN2 op) (fN3 op) op hc hr)
theorem add_s (op op' : UInt8) (s o : St) (hc : aggB op = true) (hr : Room s) (ho : Room o) (hn : s.n + o.n ≤ 1099511627776) (he : s.op = o.op) : FunM Try.prog 10 [.ptr 0 0 0, .adr (stc o (arN op') (fN1 op') (fN2 op') (fN3 op'))] [sb op s] (fun p H' => p = .ret (I64 0) ∧ H' = [sb op (addM op o s)]) :=
  add_c s (addM op o s) o (arN op) (fN1 op) (fN2 op) (fN3 op) (arN op') (fN1 op') (fN2 op') (fN3 op') (cal2 hc) he (add_any s o (arN op) (fN1 op) (fN2 op) (fN3 op) (arN op') (fN1 op') (fN2 op') (fN3 op') op hc hr ho hn)
end Go.Proofs.Ytpacdeiaimfiaaa
