/-
There and back: what is put is got, whatever stands behind; what is got is put as the same bytes: the law answers true whatever the number and the bytes. No condition.
-/
import Derived.Test.YtfpegfngogkmmaaRows
import Derived.Test.YtfpegfngogkmmaaApp
import Derived.WalkKit
import Derived.ProofKit
import Derived.OpenShut
import Derived.ShutString
import Derived.Deep.RegionHeld3
import Derived.ChangeOld
import Derived.Below
namespace Go.Proofs.Ytfpegfngogkmmaa.varintBack
open Go.ChangeShapes Go.WideShapes Go.ChangeAt Go.RowKit
open Go.ChangeMaps (open_string shut_string)
set_option linter.unusedVariables false

theorem own : ownKnob Try.prog.godebug = none := by kernel_rfl
theorem laidOut : laidOutB Try.prog = true := by kernel_rfl

/-- WHAT THE WALK IS TOLD OF A SLICE OF INTEGERS THAT CAME IN: it is nil; or it leads to a row of 'cap' cells, the numbers 'zs' (the first 'len' are its elements, the rest its spare room), each fitting its kind. -/
def IsRow (k : IntKind) (w : World) (a : Option Addr) (len cap : Nat) (zs : List Int) : Prop :=
  (a = none ∧ len = 0 ∧ cap = 0 ∧ zs = []) ∨
  ∃ x, a = some x ∧ len ≤ cap ∧ cap ≤ maxLen ∧ zs.length = cap ∧ (∀ i, i < zs.length → w.cell? (x.add i) = some (.int k (zs.getD i 0))) ∧ ∀ n ∈ zs, (Lit.int k n).wf = true

/-! ### STEP 1: THE WALK: the Go text returns true, AND WRITES NOTHING THAT WAS THERE: 'Below w.heap.size w w'' (Derived/Below.lean: '.refl', '.alloc', '.drew', '.setCell' at a new block, '.trans'). Open each 'IsRow' by 'rcases' AHEAD of 'go_enter'; part every test ahead of the walk. -/
theorem u8_list (zs : List Int) (h : ∀ n ∈ zs, (Lit.int .u8 n).wf = true) : zs = (zs.map Int.toNat).map (fun (n : Nat) => (n : Int)) ∧ ∀ x ∈ zs.map Int.toNat, x < 256 := by
  constructor
  · rw [List.map_map]
    conv => lhs; rw [← List.map_id zs]
    apply List.map_congr_left
    intro n hn
    have := bounds_u8 (h n hn)
    simp; omega
  · intro x hx
    obtain ⟨n, hn, rfl⟩ := List.mem_map.1 hx
    have := bounds_u8 (h n hn)
    omega
theorem reads_of {w : World} {a : Option Addr} {len cap : Nat} {zs : List Int} (h : IsRow .u8 w a len cap zs) :
    ∃ l : List Nat, l.length = len ∧ (∀ x ∈ l, x < 256) ∧ Reads w w.heap.size 1 a len (bytesV l) := by
  rcases h with ⟨rfl, rfl, rfl, rfl⟩ | ⟨x, rfl, hl, hm, hz, hc, hwf⟩
  · exact ⟨[], rfl, by simp, Reads.none_⟩
  · obtain ⟨e, hlt⟩ := u8_list zs hwf
    refine ⟨(zs.map Int.toNat).take len, by simp; omega, fun y hy => hlt y (List.mem_of_mem_take hy), by rw [bytesV_len]; simp; omega, fun h0 => ⟨x, rfl, ?_, fun j u hu => ?_⟩⟩
    · have := hc 0 (by omega)
      have hb := World.block_lt_of_cell? w _ this
      rwa [block_of_add] at hb
    · have hj : j < len := by
        have := (List.getElem?_eq_some_iff.1 hu).1
        rw [bytesV_len] at this; simp at this; omega
      rw [hc j (by omega)]
      rw [bytesV_at, List.getElem?_take, if_pos hj] at hu
      have hj' : j < zs.length := by omega
      simp [List.getElem?_eq_getElem hj'] at hu
      have := bounds_u8 (hwf _ (List.getElem_mem hj'))
      rw [← hu]
      simp [List.getD, List.getElem?_eq_getElem hj']
      omega
theorem cap_of {k : IntKind} {w : World} {a : Option Addr} {len cap : Nat} {zs : List Int} (h : IsRow k w a len cap zs) : len ≤ cap := by
  rcases h with ⟨_, rfl, rfl, _⟩ | ⟨_, _, h, _⟩
  · exact Nat.le_refl _
  · exact h
theorem zig_zag {u : Int} (h : 0 ≤ u) : zigS (zagS u) = u := by
  unfold zagS zigS
  split <;> split <;> omega
theorem zag_zig (v : Int) : zagS (zigS v) = v := by
  unfold zagS zigS
  split <;> split <;> omega
theorem zag_bd {u : Int} (h : 0 ≤ u) (h2 : u ≤ 18446744073709551615) : -9223372036854775808 ≤ zagS u ∧ zagS u ≤ 9223372036854775807 := by
  unfold zagS; split <;> omega
theorem zig_bd {v : Int} (h : -9223372036854775808 ≤ v) (h2 : v ≤ 9223372036854775807) : 0 ≤ zigS v ∧ zigS v ≤ 18446744073709551615 := by
  unfold zigS; split <;> omega
theorem wrap_bd (n : Int) : -9223372036854775808 ≤ wrap64 n ∧ wrap64 n ≤ 9223372036854775807 := by unfold wrap64; omega

theorem own_form {w : World} {B n : Nat} {e : TypeId} {v : Value} {xs : List Value} (h : w.ownsRow B e 1 v n xs) : ∃ A c, v = .slice A n c := by
  rcases h.2 with ⟨rfl, rfl⟩ | ⟨g, cap, cur, rfl, _⟩
  · exact ⟨_, _, rfl⟩
  · exact ⟨_, _, rfl⟩
set_option maxRecDepth 100000 in
set_option maxHeartbeats 8000000 in
theorem walk (a0 : Int) (a1 : Option Addr) (len1 cap1 : Nat) (z1 : List Int) (w : World) (w0 : (Lit.int .u64 a0).wf = true) (w1 : IsRow .u8 w a1 len1 cap1 z1) :
    Calls Try.prog 6 #[.int .u64 a0, .slice a1 len1 cap1] w fun e w' => e = .returned (.bool true) ∧ Below w.heap.size w w' := by
  obtain ⟨l0, u0⟩ := bounds_u64 w0
  clear w0
  obtain ⟨v, rfl⟩ := Int.eq_ofNat_of_zero_le l0
  have hv : v ≤ 18446744073709551615 := by omega
  clear u0 l0
  obtain ⟨l, hl, hlt, hr⟩ := reads_of w1
  have hcap := cap_of w1
  have HR := Lib.hid hr
  have HL := Lib.hid hl
  have HT := Lib.hid hlt
  have HV := Lib.hid hv
  clear w1 hr hl hlt hv
  obtain ⟨i0, hi0, hz0, hz1, hz2⟩ := info_parts u8info
  by_cases h1 : len1 ≤ 1000
  · obtain ⟨q, hq⟩ : ∃ q, q = (enc v).length := ⟨_, rfl⟩
    have hq1 : 1 ≤ q := by have := enc_pos v; omega
    have hq2 : q ≤ 10 := by have := enc_len10 v HV.out; omega
    have HQ := Lib.hid hq
    clear hq
    go_enter Try.func6, Try.ntmps6
    go_wp2_with fail
    refine (put_any none 0 0 [] v _ rfl Reads.none_ (by omega) HV.out).mono ?_
    rintro e w1 ⟨vp, rfl, hown, hb⟩
    rw [List.nil_append, ← HQ.out] at hown
    obtain ⟨A1, c1, rfl⟩ := own_form hown
    have hrp := Reads.of_own hown
    have HP := Lib.hid hrp
    have HB := Lib.hid hb
    have HR1 := Lib.hid (HR.out.below hb)
    clear hrp hown hb
    have hz1' := HB.out.size
    have own0 := Lib.hid (World.ownsRow_lit (base := w.heap.size) (e := 5) (size := 1) w1 #[] 0 hz1' (by unfold maxLen; omega) rfl)
    have hlow := HB.out.alloc hz1' (.cells #[] 5)
    have HLOW := Lib.hid hlow
    have HP1 := Lib.hid (HP.out.below ((Below.refl _ w1).alloc (Nat.le_refl _) (.cells #[] 5)))
    clear hlow
    go_wp2_with (at_builtin; refine wpList_append_any _ rfl (.tmp 18) (.tmp 19) _ rfl w.heap.size 5 i0 _ 1 1 Try.underlying22 hi0 hz0 hz1 hz2 rfl (by omega) (.slice (some ⟨w1.heap.size, 0, none⟩) 0 0) 0 [] rfl own0.out w1.heap.size A1 q c1 (bytesV (enc v)) rfl HP1.out (bytesV_one _) (by unfold maxLen; omega) (by omega) HLOW.out.size ?_)
    intro v1 w2 hown1 hg1 hat1
    have HB2 := Lib.hid (HLOW.out.grown hg1 HLOW.out.size (fun k hk => by simp [Value.ownBlock] at hk; omega))
    have HR2 := Lib.hid (HR.out.below HB2.out)
    have hown1' := Lib.hid hown1
    have hv1 : ∀ k, v1.ownBlock = some k → w.heap.size ≤ k := fun k hk => (hown1.lt k hk).1
    have HV1 := Lib.hid hv1
    clear hown1 hg1 hat1 hv1
    go_wp2_with (at_builtin; refine wpList_append_any _ rfl (.tmp 20) (.tmp 21) _ rfl w.heap.size 5 i0 _ 1 1 Try.underlying22 hi0 hz0 hz1 hz2 rfl (by omega) v1 q (bytesV (enc v)) rfl hown1'.out w.heap.size a1 len1 cap1 (bytesV l) rfl HR2.out (bytesV_one _) (by unfold maxLen; omega) (by omega) HB2.out.size ?_)
    intro v2 w3 hown2 hg2 hat2
    have HB3 := Lib.hid (HB2.out.grown hg2 HB2.out.size (fun k hk => HV1.out k hk))
    rw [← bytesV_app] at hown2
    obtain ⟨A2, c2, rfl⟩ := own_form hown2
    have HR3 := Lib.hid (HR.out.below HB3.out)
    have HP2 := Lib.hid (Reads.of_own hown2)
    have hg := getV_enc v l HV.out
    have HG := Lib.hid hg
    clear hown2 hg2 hat2 hg
    go_wp2_with fail
    refine (get_any A2 (q + len1) c2 (enc v ++ l) _ (by rw [List.length_append, ← HQ.out, HL.out]) HP2.out (fun x hx => (List.mem_append.1 hx).elim (enc_lt v x) (HT.out x)) (by omega)).mono ?_
    rintro e w' ⟨rfl, rfl⟩
    rw [HG.out, ← HQ.out]
    have HW := Lib.hid (getV_wrong l)
    obtain ⟨x, m, er, hgl⟩ : ∃ x m er, getV l = (x, m, er) := ⟨_, _, _, rfl⟩
    have HGL := Lib.hid hgl
    clear hgl
    by_cases her : er = 0
    · subst her
      obtain ⟨m1, m2, m3⟩ := getV_back HT.out HGL.out
      have M3 := Lib.hid m3
      rw [HL.out] at m2
      have hx : x ≤ 18446744073709551615 := by have := getV_lt l; rw [HGL.out] at this; exact this
      have HX := Lib.hid hx
      clear m3 hx
      go_wp2_with fail
      refine (get_any a1 len1 cap1 l _ HL.out (HR3.out.more HB3.out.size) HT.out (by omega)).mono ?_
      rintro e w' ⟨rfl, rfl⟩
      rw [HGL.out]
      obtain ⟨y, hy⟩ : ∃ y, wrap64 (v : Int) = y := ⟨_, rfl⟩
      have hyw : IntKind.i64.wrap (v : Int) = y := by rw [← hy, IntKind.wrap_i64]; unfold wrap64; omega
      obtain ⟨z, hz⟩ : ∃ z, zagS (v : Int) = z := ⟨_, rfl⟩
      obtain ⟨t, ht⟩ : ∃ t, zigS y = t := ⟨_, rfl⟩
      have HZ := Lib.hid (And.intro hz (show zigS z = (v : Int) by rw [← hz]; exact zig_zag (by omega)))
      have HTT := Lib.hid (And.intro ht (show zagS t = y by rw [← ht]; exact zag_zig y))
      have HZB := Lib.hid (show -9223372036854775808 ≤ z ∧ z ≤ 9223372036854775807 by rw [← hz]; exact zag_bd (by omega) (by have := HV.out; omega))
      have HYB := Lib.hid (show -9223372036854775808 ≤ y ∧ y ≤ 9223372036854775807 by rw [← hy]; exact wrap_bd _)
      have HTB := Lib.hid (show 0 ≤ t ∧ t ≤ 18446744073709551615 by rw [← ht]; exact zig_bd HYB.out.1 HYB.out.2)
      have HRm := Lib.hid (show Reads w3.drew w3.drew.heap.size 1 a1 m (bytesV (enc x)) by
        have := ((HR3.out.more HB3.out.size).take (m := m) (by omega))
        rw [bytesV_take, M3.out] at this
        exact this)
      clear hz ht
      go_wp2_with fail
      have hcb := conv_reads (c := cap1) HRm.out
      have hi1 : (1 : Int) ≤ (m : Int) := by omega
      have hi2 : (m : Int) ≤ (len1 : Int) := by omega
      have hi3 : (m : Int) ≤ (cap1 : Int) := by omega
      refine wp_region_held_drew (S := (fun W => Reads W w3.drew.heap.size 1 a1 m (bytesV (enc x)) ∧ Sem.run Try.prog (convert 22 9 (.slice a1 m cap1)) W = .ok (.string (strB (enc x))) W)) (by kernel_rfl) (by exact ⟨HRm.out, hcb⟩) (fun hHeld1 => ?_)
      refine wpAnyH_take (i := 0) (oi := { dst := some 73, op := _, type := _, pos := _, after := _, guard := _ }) (v := ?v1x0) rfl (by kernel_rfl) (by kernel_rfl) (by kernel_rfl) (fun _ _ _ h => h) (Or.inl ⟨by kernel_rfl, ?y1x0⟩) (by assumption) ?r1x0
      case y1x0 =>
        intro wS hSw
        (try dsimp only at hSw)
        first | (go_simp; done) | (go_simp; with_reducible rfl)
      (try simp only [Act.put, List.setIfInBounds_toArray, List.set_cons_zero, List.set_cons_succ])
      refine wpAnyH_take (i := 1) (oi := { dst := some 74, op := _, type := _, pos := _, after := _, guard := _ }) (v := ?v1x1) rfl (by kernel_rfl) (by kernel_rfl) (by kernel_rfl) (fun _ _ _ h => h) (Or.inl ⟨by kernel_rfl, ?y1x1⟩) (by assumption) ?r1x1
      case y1x1 =>
        intro wS hSw
        (try dsimp only at hSw)
        first | (go_simp; done) | (go_simp; with_reducible rfl)
      (try simp only [Act.put, List.setIfInBounds_toArray, List.set_cons_zero, List.set_cons_succ])
      refine wpAnyH_take (i := 2) (oi := { dst := some 75, op := _, type := _, pos := _, after := _, guard := _ }) (v := ?v1x2) rfl (by kernel_rfl) (by kernel_rfl) (by kernel_rfl) (fun _ _ _ h => h) (Or.inl ⟨by kernel_rfl, ?y1x2⟩) (by assumption) ?r1x2
      case y1x2 =>
        intro wS hSw
        (try dsimp only at hSw)
        first | (go_simp; done) | (go_simp; with_reducible rfl)
      (try simp only [Act.put, List.setIfInBounds_toArray, List.set_cons_zero, List.set_cons_succ])
      refine wpAnyH_take (i := 3) (oi := { dst := some 76, op := _, type := _, pos := _, after := _, guard := _ }) (v := ?v1x3) rfl (by kernel_rfl) (by kernel_rfl) (by kernel_rfl) (fun _ _ _ h => h) (Or.inl ⟨by kernel_rfl, ?y1x3⟩) (by assumption) ?r1x3
      case y1x3 =>
        intro wS hSw
        (try dsimp only at hSw)
        first | (go_simp; done) | (go_simp; with_reducible rfl)
      (try simp only [Act.put, List.setIfInBounds_toArray, List.set_cons_zero, List.set_cons_succ])
      refine wpAnyH_take (i := 4) (oi := { dst := some 77, op := _, type := _, pos := _, after := _, guard := _ }) (v := ?v1x4) rfl (by kernel_rfl) (by kernel_rfl) (by kernel_rfl) (fun _ _ _ h => h) (Or.inl ⟨by kernel_rfl, ?y1x4⟩) (by assumption) ?r1x4
      case y1x4 =>
        intro wS hSw
        (try dsimp only at hSw)
        first | (go_simp; done) | (go_simp; with_reducible rfl)
      (try simp only [Act.put, List.setIfInBounds_toArray, List.set_cons_zero, List.set_cons_succ])
      refine wpAnyH_take (i := 5) (oi := { dst := some 78, op := _, type := _, pos := _, after := _, guard := _ }) (v := ?v1x5) rfl (by kernel_rfl) (by kernel_rfl) (by kernel_rfl) (fun _ _ _ h => h) (Or.inl ⟨by kernel_rfl, ?y1x5⟩) (by assumption) ?r1x5
      case y1x5 =>
        intro wS hSw
        (try dsimp only at hSw)
        first | (go_simp; done) | (go_simp; with_reducible rfl)
      (try simp only [Act.put, List.setIfInBounds_toArray, List.set_cons_zero, List.set_cons_succ])
      refine wpAnyH_take (i := 6) (oi := { dst := some 79, op := _, type := _, pos := _, after := _, guard := _ }) (v := ?v1x6) rfl (by kernel_rfl) (by kernel_rfl) (by kernel_rfl) (fun _ _ _ h => h) (Or.inl ⟨by kernel_rfl, ?y1x6⟩) (by assumption) ?r1x6
      case y1x6 =>
        intro wS hSw
        (try dsimp only at hSw)
        first | (go_simp; done) | (go_simp; with_reducible rfl)
      (try simp only [Act.put, List.setIfInBounds_toArray, List.set_cons_zero, List.set_cons_succ])
      refine wpAnyH_take (i := 7) (oi := { dst := some 80, op := _, type := _, pos := _, after := _, guard := _ }) (v := ?v1x7) rfl (by kernel_rfl) (by kernel_rfl) (by kernel_rfl) (fun _ _ _ h => h) (Or.inl ⟨by kernel_rfl, ?y1x7⟩) (by assumption) ?r1x7
      case y1x7 =>
        intro wS hSw
        (try dsimp only at hSw)
        first | (go_simp; done) | (go_simp; with_reducible rfl)
      (try simp only [Act.put, List.setIfInBounds_toArray, List.set_cons_zero, List.set_cons_succ])
      refine wpAnyH_take (i := 8) (oi := { dst := some 81, op := _, type := _, pos := _, after := _, guard := _ }) (v := ?v1x8) rfl (by kernel_rfl) (by kernel_rfl) (by kernel_rfl) (fun _ _ _ h => h) (Or.inl ⟨by kernel_rfl, ?y1x8⟩) (by assumption) ?r1x8
      case y1x8 =>
        intro wS hSw
        (try dsimp only at hSw)
        first | (go_simp; done) | (go_simp; with_reducible rfl)
      (try simp only [Act.put, List.setIfInBounds_toArray, List.set_cons_zero, List.set_cons_succ])
      refine wpAnyH_take (i := 9) (oi := { dst := some 82, op := _, type := _, pos := _, after := _, guard := _ }) (v := ?v1x9) rfl (by kernel_rfl) (by kernel_rfl) (by kernel_rfl) (fun _ _ _ h => h) (Or.inl ⟨by kernel_rfl, ?y1x9⟩) (by assumption) ?r1x9
      case y1x9 =>
        intro wS hSw
        (try dsimp only at hSw)
        first | (go_simp; done) | (go_simp; with_reducible rfl)
      (try simp only [Act.put, List.setIfInBounds_toArray, List.set_cons_zero, List.set_cons_succ])
      refine wpAnyH_take (i := 12) (oi := { dst := some 85, op := _, type := _, pos := _, after := _, guard := _ }) (v := ?v1x10) rfl (by kernel_rfl) (by kernel_rfl) (by kernel_rfl) (fun _ _ _ h => h) (Or.inl ⟨by kernel_rfl, ?y1x10⟩) (by assumption) ?r1x10
      case y1x10 =>
        intro wS hSw
        (try dsimp only at hSw)
        first | (go_simp; done) | (go_simp; with_reducible rfl)
      (try simp only [Act.put, List.setIfInBounds_toArray, List.set_cons_zero, List.set_cons_succ])
      refine wpAnyH_take (i := 13) (oi := { dst := some 86, op := _, type := _, pos := _, after := _, guard := _ }) (v := ?v1x11) rfl (by kernel_rfl) (by kernel_rfl) (by kernel_rfl) (fun _ _ _ h => h) (Or.inl ⟨by kernel_rfl, ?y1x11⟩) (by assumption) ?r1x11
      case y1x11 =>
        intro wS hSw
        (try dsimp only at hSw)
        first | (go_simp; done) | (go_simp; with_reducible rfl)
      (try simp only [Act.put, List.setIfInBounds_toArray, List.set_cons_zero, List.set_cons_succ])
      refine wpAnyH_take (i := 14) (oi := { dst := some 87, op := _, type := _, pos := _, after := _, guard := _ }) (v := ?v1x12) rfl (by kernel_rfl) (by kernel_rfl) (by kernel_rfl) (fun _ _ _ h => h) (Or.inl ⟨by kernel_rfl, ?y1x12⟩) (by assumption) ?r1x12
      case y1x12 =>
        intro wS hSw
        (try dsimp only at hSw)
        first | (go_simp; done) | (go_simp; with_reducible rfl)
      (try simp only [Act.put, List.setIfInBounds_toArray, List.set_cons_zero, List.set_cons_succ])
      refine wpAnyH_take (i := 15) (oi := { dst := some 88, op := _, type := _, pos := _, after := _, guard := _ }) (v := ?v1x13) rfl (by kernel_rfl) (by kernel_rfl) (by kernel_rfl) (fun _ _ _ h => h) (Or.inl ⟨by kernel_rfl, ?y1x13⟩) (by assumption) ?r1x13
      case y1x13 =>
        intro wS hSw
        (try dsimp only at hSw)
        first | (go_simp; done) | (go_simp; with_reducible rfl)
      (try simp only [Act.put, List.setIfInBounds_toArray, List.set_cons_zero, List.set_cons_succ])
      refine wpAnyH_ready (rs := [10]) (by kernel_rfl) (by simp) ?_
      refine AllReadyH.cons (o := { dst := some 83, op := _, type := _, pos := _, after := _, guard := _ }) rfl (fun K1x14 hK1x14 => ?_) AllReadyH.nil
      go_simp
      refine (put_any none 0 0 [] x _ rfl Reads.none_ (by omega) HX.out).mono ?_
      rintro e w4 ⟨vx, rfl, hownx, hb4⟩
      rw [List.nil_append] at hownx
      have hcx := conv_own hownx
      have hrm4 := HRm.out.below hb4
      have hcb4 := conv_reads (c := cap1) hrm4
      have HB45 := Lib.hid hb4.size
      have HRm4 := Lib.hid hrm4
      have Hb4 := Lib.hid hb4
      clear hownx hb4 hrm4
      go_simp
      refine hK1x14.out _ _ (by exact ⟨HRm4.out, hcb4⟩) (fun hHeld1x14 => ?_)
      clear hK1x14 K1x14
      (try simp only [Act.put, List.setIfInBounds_toArray, List.set_cons_zero, List.set_cons_succ])
      refine wpAnyH_ready (rs := [11]) (by kernel_rfl) (by simp) ?_
      refine AllReadyH.cons (o := { dst := some 84, op := _, type := _, pos := _, after := _, guard := _ }) rfl (fun K1x15 hK1x15 => ?_) AllReadyH.nil
      go_simp
      refine hK1x15.out _ _ (by exact ⟨HRm4.out, hcb4⟩) (fun hHeld1x15 => ?_)
      clear hK1x15 K1x15
      (try simp only [Act.put, List.setIfInBounds_toArray, List.set_cons_zero, List.set_cons_succ])
      refine wpAnyH_take (i := 16) (oi := { dst := some 89, op := _, type := _, pos := _, after := _, guard := _ }) (v := ?v1x16) rfl (by kernel_rfl) (by kernel_rfl) (by kernel_rfl) (fun _ _ _ h => h) (Or.inl ⟨by kernel_rfl, ?y1x16⟩) (by assumption) ?r1x16
      case y1x16 =>
        intro wS hSw
        (try dsimp only at hSw)
        first | (go_simp; done) | (go_simp; with_reducible rfl)
      (try simp only [Act.put, List.setIfInBounds_toArray, List.set_cons_zero, List.set_cons_succ])
      refine wpAnyH_take (i := 17) (oi := { dst := some 90, op := _, type := _, pos := _, after := _, guard := _ }) (v := ?v1x17) rfl (by kernel_rfl) (by kernel_rfl) (by kernel_rfl) (fun _ _ _ h => h) (Or.inl ⟨by kernel_rfl, ?y1x17⟩) (by assumption) ?r1x17
      case y1x17 =>
        intro wS hSw
        (try dsimp only at hSw)
        first | (go_simp; done) | (go_simp; with_reducible rfl)
      (try simp only [Act.put, List.setIfInBounds_toArray, List.set_cons_zero, List.set_cons_succ])
      refine wpAnyH_take (i := 18) (oi := { dst := some 91, op := _, type := _, pos := _, after := _, guard := _ }) (v := ?v1x18) rfl (by kernel_rfl) (by kernel_rfl) (by kernel_rfl) (fun _ _ _ h => h) (Or.inl ⟨by kernel_rfl, ?y1x18⟩) (by assumption) ?r1x18
      case y1x18 =>
        intro wS hSw
        (try dsimp only at hSw)
        first | (go_simp; done) | (go_simp; with_reducible rfl)
      (try simp only [Act.put, List.setIfInBounds_toArray, List.set_cons_zero, List.set_cons_succ])
      refine wpAnyH_take (i := 19) (oi := { dst := some 92, op := _, type := _, pos := _, after := _, guard := _ }) (v := ?v1x19) rfl (by kernel_rfl) (by kernel_rfl) (by kernel_rfl) (fun _ _ _ h => h) (Or.inl ⟨by kernel_rfl, ?y1x19⟩) (by assumption) ?r1x19
      case y1x19 =>
        intro wS hSw
        (try dsimp only at hSw)
        first | (go_simp; done) | (go_simp; with_reducible rfl)
      (try simp only [Act.put, List.setIfInBounds_toArray, List.set_cons_zero, List.set_cons_succ])
      refine wpAnyH_take (i := 22) (oi := { dst := some 95, op := _, type := _, pos := _, after := _, guard := _ }) (v := ?v1x20) rfl (by kernel_rfl) (by kernel_rfl) (by kernel_rfl) (fun _ _ _ h => h) (Or.inl ⟨by kernel_rfl, ?y1x20⟩) (by assumption) ?r1x20
      case y1x20 =>
        intro wS hSw
        (try dsimp only at hSw)
        first | (go_simp; done) | (go_simp; with_reducible rfl)
      (try simp only [Act.put, List.setIfInBounds_toArray, List.set_cons_zero, List.set_cons_succ])
      refine wpAnyH_ready (rs := [20]) (by kernel_rfl) (by simp) ?_
      refine AllReadyH.cons (o := { dst := some 93, op := _, type := _, pos := _, after := _, guard := _ }) rfl (fun K1x21 hK1x21 => ?_) AllReadyH.nil
      go_simp
      refine (zag_any _ _ (by omega) (by have := HV.out; omega)).mono ?_
      rintro e w' ⟨rfl, rfl⟩
      rw [HZ.out.1]
      go_simp
      refine hK1x21.out _ _ (by exact ⟨HRm4.out, hcb4⟩) (fun hHeld1x21 => ?_)
      clear hK1x21 K1x21
      (try simp only [Act.put, List.setIfInBounds_toArray, List.set_cons_zero, List.set_cons_succ])
      refine wpAnyH_ready (rs := [21]) (by kernel_rfl) (by simp) ?_
      refine AllReadyH.cons (o := { dst := some 94, op := _, type := _, pos := _, after := _, guard := _ }) rfl (fun K1x22 hK1x22 => ?_) AllReadyH.nil
      go_simp
      refine (zig_any _ _ HZB.out.1 HZB.out.2).mono ?_
      rintro e w' ⟨rfl, rfl⟩
      rw [HZ.out.2]
      go_simp
      refine hK1x22.out _ _ (by exact ⟨HRm4.out, hcb4⟩) (fun hHeld1x22 => ?_)
      clear hK1x22 K1x22
      (try simp only [Act.put, List.setIfInBounds_toArray, List.set_cons_zero, List.set_cons_succ])
      refine wpAnyH_take (i := 23) (oi := { dst := some 96, op := _, type := _, pos := _, after := _, guard := _ }) (v := ?v1x23) rfl (by kernel_rfl) (by kernel_rfl) (by kernel_rfl) (fun _ _ _ h => h) (Or.inl ⟨by kernel_rfl, ?y1x23⟩) (by assumption) ?r1x23
      case y1x23 =>
        intro wS hSw
        (try dsimp only at hSw)
        first | (go_simp; done) | (go_simp; with_reducible rfl)
      (try simp only [Act.put, List.setIfInBounds_toArray, List.set_cons_zero, List.set_cons_succ])
      refine wpAnyH_take (i := 24) (oi := { dst := some 97, op := _, type := _, pos := _, after := _, guard := _ }) (v := ?v1x24) rfl (by kernel_rfl) (by kernel_rfl) (by kernel_rfl) (fun _ _ _ h => h) (Or.inl ⟨by kernel_rfl, ?y1x24⟩) (by assumption) ?r1x24
      case y1x24 =>
        intro wS hSw
        (try dsimp only at hSw)
        first | (go_simp; done) | (go_simp; with_reducible rfl)
      (try simp only [Act.put, List.setIfInBounds_toArray, List.set_cons_zero, List.set_cons_succ])
      refine wpAnyH_take (i := 25) (oi := { dst := some 98, op := _, type := _, pos := _, after := _, guard := _ }) (v := ?v1x25) rfl (by kernel_rfl) (by kernel_rfl) (by kernel_rfl) (fun _ _ _ h => h) (Or.inl ⟨by kernel_rfl, ?y1x25⟩) (by assumption) ?r1x25
      case y1x25 =>
        intro wS hSw
        (try dsimp only at hSw)
        first | (go_simp; done) | (go_simp; with_reducible rfl)
      (try simp only [Act.put, List.setIfInBounds_toArray, List.set_cons_zero, List.set_cons_succ])
      refine wpAnyH_take (i := 26) (oi := { dst := some 99, op := _, type := _, pos := _, after := _, guard := _ }) (v := ?v1x26) rfl (by kernel_rfl) (by kernel_rfl) (by kernel_rfl) (fun _ _ _ h => h) (Or.inl ⟨by kernel_rfl, ?y1x26⟩) (by assumption) ?r1x26
      case y1x26 =>
        intro wS hSw
        (try dsimp only at hSw)
        first | (go_simp; done) | (go_simp; with_reducible rfl)
      (try simp only [Act.put, List.setIfInBounds_toArray, List.set_cons_zero, List.set_cons_succ])
      refine wpAnyH_take (i := 27) (oi := { dst := some 100, op := _, type := _, pos := _, after := _, guard := _ }) (v := ?v1x27) rfl (by kernel_rfl) (by kernel_rfl) (by kernel_rfl) (fun _ _ _ h => h) (Or.inl ⟨by kernel_rfl, ?y1x27⟩) (by assumption) ?r1x27
      case y1x27 =>
        intro wS hSw
        (try dsimp only at hSw)
        first | (go_simp; done) | (go_simp; with_reducible rfl)
      (try simp only [Act.put, List.setIfInBounds_toArray, List.set_cons_zero, List.set_cons_succ])
      refine wpAnyH_take (i := 30) (oi := { dst := some 103, op := _, type := _, pos := _, after := _, guard := _ }) (v := ?v1x28) rfl (by kernel_rfl) (by kernel_rfl) (by kernel_rfl) (fun _ _ _ h => h) (Or.inl ⟨by kernel_rfl, ?y1x28⟩) (by assumption) ?r1x28
      case y1x28 =>
        intro wS hSw
        (try dsimp only at hSw)
        first | (go_simp; done) | (go_simp; with_reducible rfl)
      (try simp only [Act.put, List.setIfInBounds_toArray, List.set_cons_zero, List.set_cons_succ])
      refine wpAnyH_take (i := 31) (oi := { dst := some 104, op := _, type := _, pos := _, after := _, guard := _ }) (v := ?v1x29) rfl (by kernel_rfl) (by kernel_rfl) (by kernel_rfl) (fun _ _ _ h => h) (Or.inl ⟨by kernel_rfl, ?y1x29⟩) (by assumption) ?r1x29
      case y1x29 =>
        intro wS hSw
        (try dsimp only at hSw)
        first | (go_simp; done) | (go_simp; with_reducible rfl)
      (try simp only [Act.put, List.setIfInBounds_toArray, List.set_cons_zero, List.set_cons_succ])
      refine wpAnyH_ready (rs := [28]) (by kernel_rfl) (by simp) ?_
      refine AllReadyH.cons (o := { dst := some 101, op := _, type := _, pos := _, after := _, guard := _ }) rfl (fun K1x30 hK1x30 => ?_) AllReadyH.nil
      go_simp
      refine (zig_any _ _ HYB.out.1 HYB.out.2).mono ?_
      rintro e w' ⟨rfl, rfl⟩
      rw [HTT.out.1]
      go_simp
      refine hK1x30.out _ _ (by exact ⟨HRm4.out, hcb4⟩) (fun hHeld1x30 => ?_)
      clear hK1x30 K1x30
      (try simp only [Act.put, List.setIfInBounds_toArray, List.set_cons_zero, List.set_cons_succ])
      refine wpAnyH_ready (rs := [29]) (by kernel_rfl) (by simp) ?_
      refine AllReadyH.cons (o := { dst := some 102, op := _, type := _, pos := _, after := _, guard := _ }) rfl (fun K1x31 hK1x31 => ?_) AllReadyH.nil
      go_simp
      refine (zag_any _ _ HTB.out.1 HTB.out.2).mono ?_
      rintro e w' ⟨rfl, rfl⟩
      rw [HTT.out.2]
      go_simp
      refine hK1x31.out _ _ (by exact ⟨HRm4.out, hcb4⟩) (fun hHeld1x31 => ?_)
      clear hK1x31 K1x31
      (try simp only [Act.put, List.setIfInBounds_toArray, List.set_cons_zero, List.set_cons_succ])
      refine wpAnyH_take (i := 32) (oi := { dst := some 105, op := _, type := _, pos := _, after := _, guard := _ }) (v := ?v1x32) rfl (by kernel_rfl) (by kernel_rfl) (by kernel_rfl) (fun _ _ _ h => h) (Or.inl ⟨by kernel_rfl, ?y1x32⟩) (by assumption) ?r1x32
      case y1x32 =>
        intro wS hSw
        (try dsimp only at hSw)
        first | (go_simp; done) | (go_simp; with_reducible rfl)
      (try simp only [Act.put, List.setIfInBounds_toArray, List.set_cons_zero, List.set_cons_succ])
      refine wpAnyH_take (i := 33) (oi := { dst := some 106, op := _, type := _, pos := _, after := _, guard := _ }) (v := ?v1x33) rfl (by kernel_rfl) (by kernel_rfl) (by kernel_rfl) (fun _ _ _ h => h) (Or.inl ⟨by kernel_rfl, ?y1x33⟩) (by assumption) ?r1x33
      case y1x33 =>
        intro wS hSw
        (try dsimp only at hSw)
        first | (go_simp; done) | (go_simp; with_reducible rfl)
      (try simp only [Act.put, List.setIfInBounds_toArray, List.set_cons_zero, List.set_cons_succ])
      refine wpAnyH_take (i := 34) (oi := { dst := some 107, op := _, type := _, pos := _, after := _, guard := _ }) (v := ?v1x34) rfl (by kernel_rfl) (by kernel_rfl) (by kernel_rfl) (fun _ _ _ h => h) (Or.inl ⟨by kernel_rfl, ?y1x34⟩) (by assumption) ?r1x34
      case y1x34 =>
        intro wS hSw
        (try dsimp only at hSw)
        first | (go_simp; done) | (go_simp; with_reducible rfl)
      (try simp only [Act.put, List.setIfInBounds_toArray, List.set_cons_zero, List.set_cons_succ])
      refine wpAnyH_ready (rs := [35]) (by kernel_rfl) (by simp) ?_
      refine AllReadyH.cons (o := { dst := some 108, op := _, type := _, pos := _, after := _, guard := _ }) rfl (fun K1x35 hK1x35 => ?_) AllReadyH.nil
      go_simp
      refine (puts_any _).mono ?_
      rintro e w5 ⟨rfl, hb5⟩
      have hrm5 := HRm4.out.below (hb5.mono HB45.out)
      have Hb5 := Lib.hid hb5
      clear hb5
      go_simp
      refine hK1x35.out _ _ (by exact ⟨hrm5, conv_reads (c := cap1) hrm5⟩) (fun hHeld1x35 => ?_)
      clear hK1x35 K1x35
      (try simp only [Act.put, List.setIfInBounds_toArray, List.set_cons_zero, List.set_cons_succ])
      refine wpAnyH_take (i := 36) (oi := { dst := some 109, op := _, type := _, pos := _, after := _, guard := _ }) (v := ?v1x36) rfl (by kernel_rfl) (by kernel_rfl) (by kernel_rfl) (fun _ _ _ h => h) (Or.inl ⟨by kernel_rfl, ?y1x36⟩) (by assumption) ?r1x36
      case y1x36 =>
        intro wS hSw
        (try dsimp only at hSw)
        first | (go_simp; done) | (go_simp; with_reducible rfl)
      (try simp only [Act.put, List.setIfInBounds_toArray, List.set_cons_zero, List.set_cons_succ])
      refine wpAnyH_take (i := 37) (oi := { dst := some 4, op := _, type := _, pos := _, after := _, guard := _ }) (v := ?v1x37) rfl (by kernel_rfl) (by kernel_rfl) (by kernel_rfl) (fun _ _ _ h => h) (Or.inl ⟨by kernel_rfl, ?y1x37⟩) (by assumption) ?r1x37
      case y1x37 =>
        intro wS hSw
        (try dsimp only at hSw)
        first | (go_simp; done) | (go_simp; with_reducible rfl)
      (try simp only [Act.put, List.setIfInBounds_toArray, List.set_cons_zero, List.set_cons_succ])
      refine wpAnyH_done (by kernel_rfl) ?_ _
      (try dsimp only [Act.put])
      (try simp only [Act.put, List.setIfInBounds_toArray, List.set_cons_zero, List.set_cons_succ])
      go_wp2_with fail
      go_ret
      exact ⟨rfl, HB3.out.drew.trans ((Hb4.out.mono HB3.out.size).trans (Hb5.out.mono (Nat.le_trans HB3.out.size Hb4.out.size)))⟩
    · have hw : x = 0 ∧ m = 0 ∧ (er = 20 ∨ er = 21) := by have := HW.out; rw [HGL.out] at this; simpa [her] using this
      obtain ⟨rfl, rfl, hw⟩ := hw
      clear her
      rcases hw with rfl | rfl
      all_goals
        go_wp2_with fail
        refine (get_any a1 len1 cap1 l _ HL.out (HR3.out.more HB3.out.size) HT.out (by omega)).mono ?_
        rintro e w' ⟨rfl, rfl⟩
        rw [HGL.out]
        go_wp2_with fail
        refine (puts_any _).mono ?_
        rintro e w4 ⟨rfl, hb4⟩
        have Hb4 := Lib.hid (HB3.out.trans (hb4.mono HB3.out.size))
        clear hb4
        go_wp2_with fail
        go_ret
        exact ⟨rfl, Hb4.out⟩
  · go_enter Try.func6, Try.ntmps6
    go_wp2_with fail
    go_ret
    exact ⟨rfl, Below.refl _ _⟩

/-! ### THE ROW's STEP: WRITTEN OUT: LEAVE IT -/
set_option maxRecDepth 100000 in
theorem lifted (os : Os) (started : os.Started) (H : Type) (enc : TypeId × Value → H) :
    ReturnsInHanded {} Try.checked os 6 .any (Rows.varintBackSpec.pre6 enc Try.prog Try.f6 Rows.varintBackRow.domain false) (Rows.varintBackSpec.post enc Try.prog Try.f6 false true false false) := by
  refine returnsInHanded_of_change (C := Try.checked) own started (by kernel_rfl) Try.func6
    (ChangeSpec.witness6 (enc := enc) (C := Try.checked) false ⟨#[], #[.int .u64 0, .slice none 0 0], []⟩ 8 (by kernel_rfl) (by kernel_rfl) (by kernel_rfl) (by kernel_rfl)) ?_
  intro W base args ds gs before hval0 hW hcnd _
  have hval : ∀ (j : Nat) t v, Try.f6.params[j]? = some t → args[j]? = some v → Value.okWide Try.prog W .any base t v := hval0
  have hW' := hW
  obtain ⟨p, q, hA0, hV, rfl, hfz, hnd⟩ := hW
  have hA : DataW.TrodAll enc Try.prog W 0 (fun _ => true) true Try.f6.params.toList args.toList ds p := hA0
  rw [Try.params6] at hA hval
  obtain ⟨v0, vs0, d0, ds0, p0, q0, hargs, rfl, rfl, h0, r0⟩ := trodAll_cons hA
  obtain ⟨v1, vs1, d1, ds1, p1, q1, rfl, rfl, rfl, h1, r1⟩ := trodAll_cons r0
  obtain ⟨rfl, rfl, rfl⟩ := trodAll_nil r1
  obtain rfl : args = #[v0, v1] := by cases args; simp_all
  obtain ⟨rfl, rfl⟩ := trodVars_none hV
  obtain ⟨a0, rfl, rfl, rfl, w0⟩ := open_int Try.underlying23 (hval 0 23 v0 rfl rfl) h0
  obtain ⟨a1, len1, cap1, rfl⟩ := okWide_slice Try.underlying22 (hval 1 22 v1 rfl rfl)
  have k1 := h1
  have lt1 : ∀ x ∈ p1, x.block < W.heap.size := by obtain ⟨m, hm⟩ := k1; exact DataW.trod_lt m _ _ _ hm
  obtain ⟨z1, w1⟩ : ∃ zs, IsRow .u8 W a1 len1 cap1 zs := by
    obtain ⟨fuel, hf⟩ := h1
    rcases open_ints Try.underlying22 Try.underlying5 (by kernel_rfl) hf with ⟨hcs, _⟩ | ⟨x, l, c, zs, hcs, _, hl, hm, hz, _, hcell, hwz⟩
    · simp [Value.cells] at hcs
      obtain ⟨rfl, rfl, rfl⟩ := hcs
      exact ⟨[], .inl ⟨rfl, rfl, rfl, rfl⟩⟩
    · simp [Value.cells] at hcs
      obtain ⟨rfl, rfl, rfl⟩ := hcs
      exact ⟨zs, .inr ⟨_, rfl, hl, hm, by simpa using hz, hcell, hwz⟩⟩
  clear hA0 hval0
  refine (walk a0 a1 len1 cap1 z1 W w0 w1).mono fun e W' ⟨he, bel⟩ => ?_
  subst he
  exact ⟨_, rfl, _, _, _, [], _, [], hW', trodAll_mk1 (shut_bool Try.underlying4 _), (trodAll_cons_mk (shut_int Try.underlying23 w0) (trodAll_cons_mk (Below.trod laidOut (by kernel_rfl) (of_decide_eq_true (by kernel_rfl)) k1 bel lt1) trodAll_mk0)), rfl, bel.frame _, fun h => by cases h⟩

theorem over : Rows.varintBackRow.holds Try.pinned (OpenSpec.ofChange Rows.varintBackSpec) :=
  OpenClaim.holds_of_wide 6 Try.f6 rfl rfl rfl rfl rfl rfl rfl ⟨rfl, rfl, rfl, rfl, rfl⟩ rfl rfl rfl rfl rfl (by kernel_rfl) Try.func6 (by kernel_rfl)
    (of_decide_eq_true (by kernel_rfl)) (by unfold Func.isWrapper; first | (rw [if_pos (by decide +kernel)]; kernel_rfl) | (rw [if_neg (by decide +kernel)]; exact ⟨rfl, rfl⟩))
    (fun os started H enc _ => lifted os started H enc)

/-- The statement. -/
theorem proved : Rows.VarintBackSaid := over
#print axioms proved
end Go.Proofs.Ytfpegfngogkmmaa.varintBack
