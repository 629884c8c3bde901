/-
  A logic of data for the walks: what a law is handed, read as data, by its types; the step from a law's walk to its row. Plain lemmas over any program; no condition.
-/
import Derived.Test.YtpacdeiaimfiaaaDlJ
import Derived.OpenShut
import Derived.ShutString
import Derived.ChangeOld
import Derived.Carry
set_option linter.unusedSimpArgs false
set_option linter.unusedVariables false
namespace Go.DL
open Go.RowKit

/-- All that lies in a world. -/
def K0 (W : World) : Mem := fun b => W.heap[b]?
theorem K0.holds (W : World) : ∀ b c, K0 W b = some c → W.heap[b]? = some c := fun _ _ h => h
theorem K0.cell {W : World} {a : Addr} {u : Value} (h : W.cell? a = some u) : (K0 W).cell a = some u := by
  unfold World.cell? at h
  unfold Mem.cell K0
  exact h
def DRs (K : Mem) (us : List Value) (ds : List D) : Prop := us.length = ds.length ∧ ∀ (j : Nat) u d, us[j]? = some u → ds[j]? = some d → DR K β0 false u d
theorem DRs.nil (K : Mem) : DRs K [] [] := ⟨rfl, by simp⟩
theorem DRs.one {K : Mem} {u : Value} {d : D} (h : DR K β0 false u d) : DRs K [u] [d] := ⟨rfl, fun j x c hx hc => by
  rcases j with _ | j
  · simp at hx hc; subst hx hc; exact h
  · simp at hx⟩
theorem DRs.app {K : Mem} {us us' : List Value} {ds ds' : List D} (h : DRs K us ds) (h' : DRs K us' ds') : DRs K (us ++ us') (ds ++ ds') := by
  refine ⟨by simp [h.1, h'.1], fun j u d hu hd => ?_⟩
  by_cases hj : j < us.length
  · rw [List.getElem?_append_left hj] at hu
    rw [List.getElem?_append_left (by have := h.1; omega)] at hd
    exact h.2 j u d hu hd
  · rw [List.getElem?_append_right (by omega)] at hu
    rw [List.getElem?_append_right (by have := h.1; omega), ← h.1] at hd
    exact h'.2 _ u d hu hd

/-- Whatever reads as a type reads as one of these data. -/
def Rds (P : Program) (t : TypeId) {α : Type} (ok : α → Prop) (f : α → List D) : Prop :=
  ∀ {H : Type} (enc : TypeId × Value → H) (W : World) (fuel : Nat) (cs : List Value) (x : DataW H × List MemPlace), DataW.trod enc P W 0 (fun _ => true) true fuel t cs = some x → ∃ a, ok a ∧ DRs (K0 W) cs (f a)
section
variable {P : Program} {t e : TypeId} {α : Type} {ok : α → Prop} {f : α → List D}
theorem Rds.bool (ht : P.underlying t = some .bool) : Rds P t (fun _ : Bool => True) (fun b => [.v (.bool b)]) := by
  intro H enc W fuel cs x h
  obtain ⟨b, rfl, _⟩ := DataW.trod_bool ht h
  exact ⟨b, trivial, .one (.v _ _)⟩
theorem Rds.int {k : IntKind} (ht : P.underlying t = some (.int k)) : Rds P t (fun n : Int => (Lit.int k n).wf = true) (fun n => [.v (.int k n)]) := by
  intro H enc W fuel cs x h
  obtain ⟨n, rfl, _, hw⟩ := DataW.trod_int ht h
  exact ⟨n, hw, .one (.v _ _)⟩
theorem Rds.str (ht : P.underlying t = some .string) : Rds P t (fun s : ByteArray => s.size ≤ maxLen) (fun s => [.v (.string s)]) := by
  intro H enc W fuel cs x h
  obtain ⟨s, rfl, _, hw⟩ := DataW.trod_string ht h
  exact ⟨s, hw, .one (.v _ _)⟩
/-- The same data, told otherwise. -/
theorem Rds.map {γ : Type} {ok' : γ → Prop} {g : γ → List D} (R : Rds P t ok f) (h : ∀ a, ok a → ∃ c, ok' c ∧ f a = g c) : Rds P t ok' g := by
  intro H enc W fuel cs x hx
  obtain ⟨a, h1, h2⟩ := R enc W fuel cs x hx
  obtain ⟨c, h3, h4⟩ := h a h1
  exact ⟨c, h3, h4 ▸ h2⟩
theorem cells?_get {W : World} {a : Addr} {n : Nat} {cs : List Value} (h : W.cells? 0 a n = some cs) : cs.length = n ∧ ∀ (j : Nat) u, cs[j]? = some u → W.cell? (a.add j) = some u := by
  unfold World.cells? at h
  rw [if_pos (Nat.zero_le _)] at h
  have hl := mapM_some_length h
  refine ⟨by simpa using hl, fun j u hu => ?_⟩
  have hj : j < n := by have := (List.getElem?_eq_some_iff.1 hu).1; simp at hl; omega
  have := mapM_some_get h j j (by simp [hj])
  rw [this]; exact hu
theorem flat_get {sz : Nat} (hs : 0 < sz) : ∀ (l : List (List Value)) (j : Nat) (u : Value), (∀ x ∈ l, x.length = sz) → l.flatten[j]? = some u → ∃ x, l[j / sz]? = some x ∧ x[j % sz]? = some u
  | [], j, u, _, h => by simp at h
  | x :: l, j, u, hl, h => by
    rw [List.flatten_cons] at h
    have hx := hl x (by simp)
    by_cases hj : j < sz
    · rw [List.getElem?_append_left (by omega)] at h
      exact ⟨x, by rw [Nat.div_eq_of_lt hj]; rfl, by rw [Nat.mod_eq_of_lt hj]; exact h⟩
    · rw [List.getElem?_append_right (by omega), hx] at h
      obtain ⟨y, h1, h2⟩ := flat_get hs l (j - sz) u (fun z hz => hl z (by simp [hz])) h
      refine ⟨y, ?_, ?_⟩
      · have : j / sz = (j - sz) / sz + 1 := by rw [Nat.div_eq_sub_div hs (by omega)]
        rw [this, List.getElem?_cons_succ]; exact h1
      · rw [Nat.mod_eq_sub_mod (by omega)]; exact h2
theorem Rds.slice {sz : Nat} (ht : P.underlying t = some (.slice e)) (hz : (P.info? e).map (·.size) = some sz) (R : Rds P e ok f) : Rds P t (fun l : List α => (∀ a ∈ l, ok a) ∧ l.length ≤ maxLen) (fun l => [.rd l.length (l.flatMap f)]) := by
  intro H enc W fuel cs x h
  have hsz : P.cellsOf e = sz := by unfold Program.cellsOf; rw [hz]; rfl
  rcases DataW.trod_slice ht h with ⟨rfl, _⟩ | ⟨a, len, cap, elems, rest, n, _, rfl, _, _, hlc, hcm, hel, hget, _⟩
  · exact ⟨[], ⟨by simp, by simp⟩, .one (.rd _ none 0 0 [] [] (Nat.le_refl _) rfl (by simp) (by simp))⟩
  · rw [hsz] at hget
    have key : ∀ m, m ≤ len → ∃ (l : List α) (us : List Value), l.length = m ∧ (∀ a ∈ l, ok a) ∧ us.length = (l.flatMap f).length ∧ us.length = m * sz ∧ (∀ (j : Nat) u, us[j]? = some u → W.cell? (a.add j) = some u) ∧ (∀ (j : Nat) u d, us[j]? = some u → (l.flatMap f)[j]? = some d → DR (K0 W) β0 false u d) := by
      intro m
      induction m with
      | zero => intro _; exact ⟨[], [], rfl, by simp, rfl, by simp, by simp, by simp⟩
      | succ m ih =>
        intro hm
        obtain ⟨l, us, h1, h2, h3, h4, h5, h6⟩ := ih (by omega)
        have hg := hget m (by omega)
        rw [List.getElem?_eq_getElem (by omega)] at hg
        obtain ⟨cs', hc1, hc2⟩ := Option.bind_eq_some_iff.1 hg
        obtain ⟨c1, c2⟩ := cells?_get hc1
        obtain ⟨b, hb1, hb2⟩ := R enc W n cs' _ hc2
        refine ⟨l ++ [b], us ++ cs', by simp [h1], ?_, ?_, ?_, ?_, ?_⟩
        · intro y hy
          rcases List.mem_append.1 hy with hy | hy
          · exact h2 y hy
          · simp at hy; subst hy; exact hb1
        · rw [List.length_append, List.flatMap_append, List.length_append, h3, hb2.1]; simp
        · rw [List.length_append, h4, c1, Nat.add_mul]; omega
        · intro j u hu
          by_cases hj : j < us.length
          · rw [List.getElem?_append_left hj] at hu; exact h5 j u hu
          · rw [List.getElem?_append_right (by omega)] at hu
            have := c2 _ u hu
            rw [add_add] at this
            rw [← this]; congr 2; omega
        · have := DRs.app (K := K0 W) ⟨h3, h6⟩ hb2
          rw [List.flatMap_append]
          simpa using this.2
    obtain ⟨l, us, h1, h2, h3, h4, h5, h6⟩ := key len (Nat.le_refl _)
    refine ⟨l, ⟨h2, by omega⟩, .one ?_⟩
    rw [h1]
    exact .rd _ (some a) len cap us _ hlc h3 (fun j u hu => ⟨a, rfl, K0.cell (h5 j u hu)⟩) h6
/-- An array of elements. -/
theorem Rds.arr {n sz : Nat} (ht : P.underlying t = some (.array n e)) (hz : (P.info? e).map (·.size) = some sz) (hn : (P.info? t).map (·.size) = some (n * sz)) (R : Rds P e ok f) : Rds P t (fun l : List α => (∀ a ∈ l, ok a) ∧ l.length = n) (fun l => l.flatMap f) := by
  intro H enc W fuel cs x h
  have hsz : P.cellsOf e = sz := by unfold Program.cellsOf; rw [hz]; rfl
  have hct : P.cellsOf t = n * sz := by unfold Program.cellsOf; rw [hn]; rfl
  obtain ⟨xs, m, _, _, hl, hxl, hget⟩ := DataW.trod_array ht h
  rw [hsz] at hget
  rw [hct] at hl
  have key : ∀ k, k ≤ n → ∃ l : List α, l.length = k ∧ (∀ a ∈ l, ok a) ∧ DRs (K0 W) (cs.take (k * sz)) (l.flatMap f) := by
    intro k
    induction k with
    | zero => intro _; exact ⟨[], rfl, by simp, by simpa using DRs.nil _⟩
    | succ k ih =>
      intro hk
      obtain ⟨l, h1, h2, h3⟩ := ih (by omega)
      have hg := hget k (by omega)
      rw [List.getElem?_eq_getElem (by omega)] at hg
      obtain ⟨b, hb1, hb2⟩ := R enc W m _ _ hg
      refine ⟨l ++ [b], by simp [h1], ?_, ?_⟩
      · intro y hy
        rcases List.mem_append.1 hy with hy | hy
        · exact h2 y hy
        · simp at hy; subst hy; exact hb1
      · have e : cs.take ((k + 1) * sz) = cs.take (k * sz) ++ (cs.drop (k * sz)).take sz := by rw [Nat.add_mul, Nat.one_mul, List.take_add]
        rw [e, List.flatMap_append]
        simpa using h3.app hb2
  obtain ⟨l, h1, h2, h3⟩ := key n (Nat.le_refl _)
  refine ⟨l, ⟨h2, h1⟩, ?_⟩
  rwa [List.take_of_length_le (by omega)] at h3

/-- The fields of a struct, from cell 'off' on. -/
def RdF (P : Program) (off : Nat) (fs : List Field) {α : Type} (ok : α → Prop) (f : α → List D) (tot : Nat) : Prop :=
  ∀ {H : Type} (enc : TypeId × Value → H) (W : World) (n : Nat) (cs : List Value), (∀ fl ∈ fs, ∃ x, DataW.trod enc P W 0 (fun _ => true) true n fl.type ((cs.drop fl.offset).take (P.cellsOf fl.type)) = some x) → ∃ a, ok a ∧ DRs (K0 W) ((cs.drop off).take tot) (f a)
theorem RdF.nil (off : Nat) : RdF P off [] (fun _ : Unit => True) (fun _ => []) 0 := fun _ _ _ _ _ => ⟨(), trivial, by simpa using DRs.nil _⟩
theorem RdF.cons {off sz tot : Nat} {fl : Field} {fs : List Field} {γ : Type} {ok' : γ → Prop} {g : γ → List D} (ho : fl.offset = off) (hz : (P.info? fl.type).map (·.size) = some sz) (R : Rds P fl.type ok f) (Rs : RdF P (off + sz) fs ok' g tot) :
    RdF P off (fl :: fs) (fun p : α × γ => ok p.1 ∧ ok' p.2) (fun p => f p.1 ++ g p.2) (sz + tot) := by
  intro H enc W n cs h
  have hsz : P.cellsOf fl.type = sz := by unfold Program.cellsOf; rw [hz]; rfl
  obtain ⟨x, hx⟩ := h fl (by simp)
  rw [ho, hsz] at hx
  obtain ⟨a, h1, h2⟩ := R enc W n _ x hx
  obtain ⟨b, h3, h4⟩ := Rs enc W n cs fun fl' hf => h fl' (by simp [hf])
  refine ⟨(a, b), ⟨h1, h3⟩, ?_⟩
  rw [List.take_add, List.drop_drop]
  exact h2.app h4
theorem Rds.struct {fs : Array Field} {tot : Nat} (ht : P.underlying t = some (.struct fs)) (hn : (P.info? t).map (·.size) = some tot) (R : RdF P 0 fs.toList ok f tot) : Rds P t ok f := by
  intro H enc W fuel cs x h
  have hct : P.cellsOf t = tot := by unfold Program.cellsOf; rw [hn]; rfl
  obtain ⟨xs, n, _, _, hl, hxl, hget⟩ := DataW.trod_struct ht h
  obtain ⟨a, h1, h2⟩ := R enc W n cs fun fl hf => by
    obtain ⟨i, hi⟩ := List.getElem?_of_mem hf
    have hi' : fs[i]? = some fl := by simpa using hi
    have := hget i fl hi'
    rw [List.getElem?_eq_getElem (by have := (Array.getElem?_eq_some_iff.1 hi').1; omega)] at this
    exact ⟨_, this⟩
  refine ⟨a, h1, ?_⟩
  rw [List.drop_zero, List.take_of_length_le (by omega)] at h2
  exact h2

/-- A parameter of a type of one cell. -/
theorem Rds.flatArg {td : TypeDesc} (R : Rds P t ok f) (hu : P.underlying t = some td) (hf : flat td = true) {H : Type} {enc : TypeId × Value → H} {W : World} {v : Value} {d : DataW H} {ps : List MemPlace} {base : Nat} (hok : Value.okWide P W .any base t v)
    (h : DataW.Trod enc P W 0 (fun _ => true) true t v d ps) : ∃ a, ok a ∧ DR (K0 W) β0 false v ((f a).headD .any) := by
  obtain ⟨fuel, hx⟩ := h
  obtain ⟨a, h1, h2⟩ := R enc W fuel _ _ hx
  refine ⟨a, h1, ?_⟩
  have hv : v.cells = #[v] := by
    unfold Value.okWide at hok
    rw [hu] at hok
    cases td <;> first
      | (simp [flat] at hf; done)
      | (cases v <;> first | rfl | (simp [Cell.okWide, Cell.ok] at hok; done) | (simp_all [Cell.okWide, Cell.ok]; done))
  rw [hv] at h2
  cases hfa : f a with
  | nil => rw [hfa] at h2; have := h2.1; simp at this
  | cons d l => rw [hfa] at h2; exact h2.2 0 v d rfl rfl
theorem Rds.aggArg {td : TypeDesc} (R : Rds P t ok f) (hu : P.underlying t = some td) (hf : flat td = false) {H : Type} {enc : TypeId × Value → H} {W : World} {v : Value} {d : DataW H} {ps : List MemPlace} {base : Nat} (hok : Value.okWide P W .any base t v)
    (h : DataW.Trod enc P W 0 (fun _ => true) true t v d ps) : ∃ a, ok a ∧ DR (K0 W) β0 false v (.agg (f a)) := by
  obtain ⟨fuel, hx⟩ := h
  obtain ⟨a, h1, h2⟩ := R enc W fuel _ _ hx
  refine ⟨a, h1, ?_⟩
  have hv : ∃ cs, v = .agg cs := by
    unfold Value.okWide at hok
    rw [hu] at hok
    cases td <;> first
      | (simp [flat] at hf; done)
      | (obtain ⟨cs, e, _⟩ := hok; exact ⟨cs, e⟩)
  obtain ⟨cs, rfl⟩ := hv
  have e : Value.agg cs = .agg cs.toList.toArray := by simp
  rw [e]
  exact .agg _ _ _ h2.1 h2.2
end
/-- Bytes, as numbers of eight bits. -/
theorem wf_u8 {n : Int} (h : (Lit.int .u8 n).wf = true) : 0 ≤ n ∧ n ≤ 255 := by
  unfold Lit.wf at h
  rw [Bool.and_eq_true, decide_eq_true_iff, decide_eq_true_iff] at h
  exact h
theorem flat_bytes : ∀ (l : List Int), (∀ n ∈ l, (Lit.int .u8 n).wf = true) → l.flatMap (fun n => [D.v (.int .u8 n)]) = bytesD (l.map fun n => UInt8.ofNat n.toNat)
  | [], _ => rfl
  | n :: l, h => by
    have := wf_u8 (h n (by simp))
    rw [List.flatMap_cons, flat_bytes l fun m hm => h m (by simp [hm])]
    show D.v (.int .u8 n) :: _ = D.v (.int .u8 ((UInt8.ofNat n.toNat).toBitVec.toNat : Int)) :: _
    congr 3
    show n = ((n.toNat % 256 : Nat) : Int)
    omega
section
variable {P : Program} {t e : TypeId}
theorem Rds.bytes (ht : P.underlying t = some (.slice e)) (hz : (P.info? e).map (·.size) = some 1) (he : P.underlying e = some (.int .u8)) : Rds P t (fun l : List UInt8 => l.length ≤ 9223372036854775807) (fun l => [rdB l]) :=
  Rds.map (Rds.slice ht hz (Rds.int he)) fun l h => ⟨l.map fun n => UInt8.ofNat n.toNat, by rw [List.length_map]; exact h.2, by rw [flat_bytes l h.1]; simp⟩
theorem Rds.byteArr {n : Nat} (ht : P.underlying t = some (.array n e)) (hz : (P.info? e).map (·.size) = some 1) (hn : (P.info? t).map (·.size) = some (n * 1)) (he : P.underlying e = some (.int .u8)) : Rds P t (fun l : List UInt8 => l.length = n) (fun l => bytesD l) :=
  Rds.map (Rds.arr ht hz hn (Rds.int he)) fun l h => ⟨l.map fun n => UInt8.ofNat n.toNat, by rw [List.length_map]; exact h.2, flat_bytes l h.1⟩
/-- A number without a sign, below a bound. -/
theorem Rds.nat {k : IntKind} {m : Nat} (ht : P.underlying t = some (.int k)) (h0 : k.min = 0) (h1 : k.max = (m : Int)) : Rds P t (fun n : Nat => n ≤ m) (fun n => [.v (.int k (n : Int))]) :=
  Rds.map (Rds.int ht) fun n h => by
    unfold Lit.wf at h
    rw [Bool.and_eq_true, decide_eq_true_iff, decide_eq_true_iff, h0, h1] at h
    exact ⟨n.toNat, by omega, by rw [Int.toNat_of_nonneg h.1]⟩
theorem Rds.i64 (ht : P.underlying t = some (.int .i64)) : Rds P t (fun n : Int => -9223372036854775808 ≤ n ∧ n ≤ 9223372036854775807) (fun n => [I64 n]) :=
  Rds.map (Rds.int ht) fun n h => by
    unfold Lit.wf at h
    rw [Bool.and_eq_true, decide_eq_true_iff, decide_eq_true_iff] at h
    exact ⟨n, h, rfl⟩
end
theorem DRs.cons {K : Mem} {u : Value} {d : D} {us : List Value} {ds : List D} (h : DR K β0 false u d) (h' : DRs K us ds) : DRs K (u :: us) (d :: ds) := (DRs.one h).app h'
/-- From a function of data to the walk of a law. -/
theorem Fun.law {P : Program} {f : FuncId} {ds : List D} (h : Fun P f ds (· = .v (.bool true))) (W : World) (vs : List Value) (hv : DRs (K0 W) vs ds) : Calls P f vs.toArray W fun e W' => e = .returned (.bool true) ∧ Below W.heap.size W W' :=
  (h (K0 W) W vs hv.1 hv.2 (K0.holds W)).mono fun e W' ⟨v, d, K', h1, h2, _, _, h5, h6⟩ => by
    subst h2
    exact ⟨by rw [h1, h5.v_inv], h6⟩
end Go.DL
