/-
Every Put of the program is the document's, and what came in stays: the law answers true whatever the bytes and the number. No condition (the law itself lets more than 1,000 bytes pass).
-/
import Derived.Test.YtfpegfngogkmmaaRows
import Derived.Test.YtfpegfngogkmmaaApp
import Derived.Test.YtfpegfngogkmmaaRPut
import Derived.WalkKit
import Derived.ProofKit
import Derived.OpenShut
import Derived.ShutString
import Derived.Deep.RegionHeld3
import Derived.ChangeOld
import Derived.Below
namespace Go.Proofs.Ytfpegfngogkmmaa.varintPuts
open Go.ChangeShapes Go.WideShapes Go.ChangeAt Go.RowKit
open Go.ChangeMaps (open_string shut_string)
set_option linter.unusedVariables false

theorem own : ownKnob Try.prog.godebug = none := by kernel_rfl
theorem laidOut : laidOutB Try.prog = true := by kernel_rfl

/-- WHAT THE WALK IS TOLD OF A SLICE OF INTEGERS THAT CAME IN: it is nil; or it leads to a row of 'cap' cells, the numbers 'zs' (the first 'len' are its elements, the rest its spare room), each fitting its kind. -/
def IsRow (k : IntKind) (w : World) (a : Option Addr) (len cap : Nat) (zs : List Int) : Prop :=
  (a = none ∧ len = 0 ∧ cap = 0 ∧ zs = []) ∨
  ∃ x, a = some x ∧ len ≤ cap ∧ cap ≤ maxLen ∧ zs.length = cap ∧ (∀ i, i < zs.length → w.cell? (x.add i) = some (.int k (zs.getD i 0))) ∧ ∀ n ∈ zs, (Lit.int k n).wf = true

/-! ### STEP 1: THE WALK: the Go text returns true, AND WRITES NOTHING THAT WAS THERE: 'Below w.heap.size w w'' (Derived/Below.lean: '.refl', '.alloc', '.drew', '.setCell' at a new block, '.trans'). Open each 'IsRow' by 'rcases' AHEAD of 'go_enter'; part every test ahead of the walk. -/
theorem u8_list (zs : List Int) (h : ∀ n ∈ zs, (Lit.int .u8 n).wf = true) : zs = (zs.map Int.toNat).map (fun (n : Nat) => (n : Int)) ∧ ∀ x ∈ zs.map Int.toNat, x < 256 := by
  constructor
  · rw [List.map_map]
    conv => lhs; rw [← List.map_id zs]
    apply List.map_congr_left
    intro n hn
    have := bounds_u8 (h n hn)
    simp; omega
  · intro x hx
    obtain ⟨n, hn, rfl⟩ := List.mem_map.1 hx
    have := bounds_u8 (h n hn)
    omega
theorem reads_of {w : World} {a : Option Addr} {len cap : Nat} {zs : List Int} (h : IsRow .u8 w a len cap zs) :
    ∃ l : List Nat, l.length = len ∧ (∀ x ∈ l, x < 256) ∧ Reads w w.heap.size 1 a len (bytesV l) := by
  rcases h with ⟨rfl, rfl, rfl, rfl⟩ | ⟨x, rfl, hl, hm, hz, hc, hwf⟩
  · exact ⟨[], rfl, by simp, Reads.none_⟩
  · obtain ⟨e, hlt⟩ := u8_list zs hwf
    refine ⟨(zs.map Int.toNat).take len, by simp; omega, fun y hy => hlt y (List.mem_of_mem_take hy), by rw [bytesV_len]; simp; omega, fun h0 => ⟨x, rfl, ?_, fun j u hu => ?_⟩⟩
    · have := hc 0 (by omega)
      have hb := World.block_lt_of_cell? w _ this
      rwa [block_of_add] at hb
    · have hj : j < len := by
        have := (List.getElem?_eq_some_iff.1 hu).1
        rw [bytesV_len] at this; simp at this; omega
      rw [hc j (by omega)]
      rw [bytesV_at, List.getElem?_take, if_pos hj] at hu
      have hj' : j < zs.length := by omega
      simp [List.getElem?_eq_getElem hj'] at hu
      have := bounds_u8 (hwf _ (List.getElem_mem hj'))
      rw [← hu]
      simp [List.getD, List.getElem?_eq_getElem hj']
      omega
theorem own_cap {w : World} {B n c : Nat} {e : TypeId} {A : Option Addr} {xs : List Value} (h : w.ownsRow B e 1 (.slice A n c) n xs) : n ≤ c := by
  rcases h.2 with ⟨h1, rfl⟩ | ⟨g, cap, cur, h1, _, _, h2, _⟩
  · exact Nat.zero_le _
  · injection h1 with _ _ h3
    omega
theorem strB_cat (l m : List Nat) : strB l ++ strB m = strB (l ++ m) := by
  have h : (strB l ++ strB m).data.toList = (strB (l ++ m)).data.toList := by
    rw [ByteArray.data_append]
    simp [strB, strOfNums]
  exact Go.WideShapes.bytes_inj h

theorem own_form {w : World} {B n : Nat} {e : TypeId} {v : Value} {xs : List Value} (h : w.ownsRow B e 1 v n xs) : ∃ A c, v = .slice A n c := by
  rcases h.2 with ⟨rfl, rfl⟩ | ⟨g, cap, cur, rfl, _⟩
  · exact ⟨_, _, rfl⟩
  · exact ⟨_, _, rfl⟩
set_option linter.unusedSimpArgs false
set_option maxRecDepth 100000 in
set_option maxHeartbeats 4000000 in
theorem walk (a0 : Option Addr) (len0 cap0 : Nat) (z0 : List Int) (a1 : Int) (w : World) (w0 : IsRow .u8 w a0 len0 cap0 z0) (w1 : (Lit.int .u64 a1).wf = true) :
    Calls Try.prog 3 #[.slice a0 len0 cap0, .int .u64 a1] w fun e w' => e = .returned (.bool true) ∧ Below w.heap.size w w' := by
  obtain ⟨l1', u1⟩ := bounds_u64 w1
  clear w1
  obtain ⟨v, rfl⟩ := Int.eq_ofNat_of_zero_le l1'
  have hv : v ≤ 18446744073709551615 := by omega
  clear u1 l1'
  obtain ⟨l, hl, hlt, hr⟩ := reads_of w0
  have HR := Lib.hid hr
  have HL := Lib.hid hl
  have HT := Lib.hid hlt
  have HV := Lib.hid hv
  clear w0 hr hl hlt hv
  obtain ⟨i0, hi0, hz0, hz1, hz2⟩ := info_parts u8info
  by_cases h1 : len0 ≤ 1000
  · have own0 := Lib.hid (World.ownsRow_lit (base := w.heap.size) (e := 5) (size := 1) w #[] 0 (Nat.le_refl _) (by unfold maxLen; omega) rfl)
    have HLOW := Lib.hid ((Below.refl w.heap.size w).alloc (Nat.le_refl _) (.cells #[] 5))
    have HR0 := Lib.hid (HR.out.below HLOW.out)
    go_enter Try.func3, Try.ntmps3
    go_wp2_with (at_builtin; refine wpList_append_any _ rfl (.tmp 10) (.tmp 11) _ rfl w.heap.size 5 i0 _ 1 1 Try.underlying22 hi0 hz0 hz1 hz2 rfl (by omega) (.slice (some ⟨w.heap.size, 0, none⟩) 0 0) 0 [] rfl own0.out w.heap.size a0 len0 cap0 (bytesV l) rfl HR0.out (bytesV_one _) (by unfold maxLen; omega) (by omega) HLOW.out.size ?_)
    intro v1 w1 hown1 hg1 hat1
    have HB1 := Lib.hid (HLOW.out.grown hg1 HLOW.out.size (fun k hk => by simp [Value.ownBlock] at hk; omega))
    have hown1' := Lib.hid hown1
    clear hown1 hg1 hat1
    go_wp2_with (at_builtin; refine wpList_push tyBytes rfl (.tmp 12) (.tmp 13) rfl w.heap.size v1 len0 (bytesV l) (.int .u8 7) hown1'.out rfl rfl rfl HB1.out.size (by omega) (by unfold maxLen; omega) ?_)
    intro v2 w2 hown2 hb2 _ _
    have HB2 := Lib.hid (hb2 _ HB1.out)
    obtain ⟨A2, c2, rfl⟩ := own_form hown2
    have hown2' := Lib.hid hown2
    clear hown2 hb2
    have hc2 := own_cap hown2'.out
    have hRd := Reads.of_own hown2'.out
    obtain ⟨g, off, u, rfl, _, hu, hcell⟩ := hRd.spot (k := len0) (by omega)
    have hu7 : u = .int .u8 7 := by
      have h := HL.out
      rw [List.getElem?_append_right (by rw [bytesV_len]; omega), bytesV_len, h, Nat.sub_self] at hu
      simpa using hu.symm
    subst hu7
    have HRp := Lib.hid (show Reads w2 w2.heap.size 1 (some ⟨g, off, none⟩) len0 (bytesV l) by
      have := hRd.take (m := len0) (by omega)
      rw [List.take_left' (by rw [bytesV_len]; exact HL.out)] at this
      exact this)
    have HCE := Lib.hid hcell
    have hcap : (len0 : Int) ≤ (c2 : Int) := by omega
    clear hRd hu hcell
    go_wp2_with fail
    refine (put_any _ len0 c2 l v _ HL.out HRp.out (by omega) HV.out).mono ?_
    rintro e w3 ⟨v3, rfl, hown3, hb3⟩
    have HB3 := Lib.hid (HB2.out.trans (hb3.mono HB2.out.size))
    obtain ⟨q, hq⟩ : ∃ q, q = (l ++ enc v).length := ⟨_, rfl⟩
    rw [← hq] at hown3
    have HQ := Lib.hid hq
    clear hq
    obtain ⟨A3, c3, rfl⟩ := own_form hown3
    have HR3 := Lib.hid (Reads.of_own hown3)
    have HRb := Lib.hid (HR.out.below HB3.out)
    have hce := cell_below HCE.out hb3
    have hcat := strB_cat l (enc v)
    have hsum : (strB l).size + (strB (enc v)).size ≤ 9223372036854775807 := by
      have e1 : (strB l).size = l.length := by rw [strB, strOfNums_size]; simp
      have e2 : (strB (enc v)).size = (enc v).length := by rw [strB, strOfNums_size]; simp
      have := HL.out
      have := enc_len10 v HV.out
      omega
    clear hown3 hb3
    go_wp2_with fail
    have hx1 := conv_reads (w := w3.drew) (c := c3) HR3.out
    have hx2 := conv_reads (w := w3.drew) (c := cap0) HRb.out
    have HR3d := Lib.hid (show Reads w3.drew w3.drew.heap.size 1 A3 q (bytesV (l ++ enc v)) from HR3.out)
    have HRbd := Lib.hid (show Reads w3.drew w.heap.size 1 a0 len0 (bytesV l) from HRb.out)
    have HB3d := Lib.hid (show w.heap.size ≤ w3.drew.heap.size from HB3.out.size)
    have HCEd := Lib.hid (show w3.drew.cell? ⟨g, off + len0, none⟩ = some (.int .u8 7) from hce)
    have hi1 : (0 : Int) ≤ (len0 : Int) := by omega
    have hi2 : (len0 : Int) < (len0 : Int) + 1 := by omega
    have hsum' : ¬ 9223372036854775807 < (strB l).size + (strB (enc v)).size := by omega
    refine wp_region_held_drew (S := (fun W => Reads W w3.drew.heap.size 1 A3 q (bytesV (l ++ enc v)) ∧ Sem.run Try.prog (convert 22 9 (.slice A3 q c3)) W = .ok (.string (strB (l ++ enc v))) W ∧ Reads W w.heap.size 1 a0 len0 (bytesV l) ∧ Sem.run Try.prog (convert 22 9 (.slice a0 len0 cap0)) W = .ok (.string (strB l)) W ∧ W.cell? ⟨g, off + len0, none⟩ = some (.int .u8 7))) (by kernel_rfl) (by exact ⟨HR3d.out, hx1, HRbd.out, hx2, HCEd.out⟩) (fun hHeld1 => ?_)
    refine wpAnyH_take (i := 0) (oi := { dst := some 21, op := _, type := _, pos := _, after := _, guard := _ }) (v := ?v1x0) rfl (by kernel_rfl) (by kernel_rfl) (by kernel_rfl) (fun _ _ _ h => h) (Or.inl ⟨by kernel_rfl, ?y1x0⟩) (by assumption) ?r1x0
    case y1x0 =>
      intro wS hSw
      (try dsimp only at hSw)
      first | (go_simp; done) | (go_simp; with_reducible rfl)
    (try simp only [Act.put, List.setIfInBounds_toArray, List.set_cons_zero, List.set_cons_succ])
    refine wpAnyH_take (i := 1) (oi := { dst := some 22, op := _, type := _, pos := _, after := _, guard := _ }) (v := ?v1x1) rfl (by kernel_rfl) (by kernel_rfl) (by kernel_rfl) (fun _ _ _ h => h) (Or.inl ⟨by kernel_rfl, ?y1x1⟩) (by assumption) ?r1x1
    case y1x1 =>
      intro wS hSw
      (try dsimp only at hSw)
      first | (go_simp; done) | (go_simp; with_reducible rfl)
    (try simp only [Act.put, List.setIfInBounds_toArray, List.set_cons_zero, List.set_cons_succ])
    refine wpAnyH_take (i := 2) (oi := { dst := some 23, op := _, type := _, pos := _, after := _, guard := _ }) (v := ?v1x2) rfl (by kernel_rfl) (by kernel_rfl) (by kernel_rfl) (fun _ _ _ h => h) (Or.inl ⟨by kernel_rfl, ?y1x2⟩) (by assumption) ?r1x2
    case y1x2 =>
      intro wS hSw
      (try dsimp only at hSw)
      first | (go_simp; done) | (go_simp; with_reducible rfl)
    (try simp only [Act.put, List.setIfInBounds_toArray, List.set_cons_zero, List.set_cons_succ])
    refine wpAnyH_take (i := 3) (oi := { dst := some 24, op := _, type := _, pos := _, after := _, guard := _ }) (v := ?v1x3) rfl (by kernel_rfl) (by kernel_rfl) (by kernel_rfl) (fun _ _ _ h => h) (Or.inl ⟨by kernel_rfl, ?y1x3⟩) (by assumption) ?r1x3
    case y1x3 =>
      intro wS hSw
      (try dsimp only at hSw)
      first | (go_simp; done) | (go_simp; with_reducible rfl)
    (try simp only [Act.put, List.setIfInBounds_toArray, List.set_cons_zero, List.set_cons_succ])
    refine wpAnyH_take (i := 4) (oi := { dst := some 25, op := _, type := _, pos := _, after := _, guard := _ }) (v := ?v1x4) rfl (by kernel_rfl) (by kernel_rfl) (by kernel_rfl) (fun _ _ _ h => h) (Or.inl ⟨by kernel_rfl, ?y1x4⟩) (by assumption) ?r1x4
    case y1x4 =>
      intro wS hSw
      (try dsimp only at hSw)
      first | (go_simp; done) | (go_simp; with_reducible rfl)
    (try simp only [Act.put, List.setIfInBounds_toArray, List.set_cons_zero, List.set_cons_succ])
    refine wpAnyH_ready (rs := [5]) (by kernel_rfl) (by simp) ?_
    refine AllReadyH.cons (o := { dst := some 26, op := _, type := _, pos := _, after := _, guard := _ }) rfl (fun K1x5 hK1x5 => ?_) AllReadyH.nil
    go_simp
    refine (rput_any v _ HV.out).mono ?_
    rintro e w4 ⟨v4, rfl, hown4, hb4⟩
    have hy1 := conv_own hown4
    have HS4 := Lib.hid (And.intro (HR3d.out.below hb4) (And.intro (conv_reads (c := c3) (HR3d.out.below hb4)) (And.intro (HRbd.out.below (hb4.mono HB3d.out)) (And.intro (conv_reads (c := cap0) (HRbd.out.below (hb4.mono HB3d.out))) (cell_below HCEd.out hb4)))))
    have Hb4 := Lib.hid hb4
    clear hown4 hb4
    go_simp
    refine hK1x5.out _ _ (by exact HS4.out) (fun hHeld1x5 => ?_)
    clear hK1x5 K1x5
    (try simp only [Act.put, List.setIfInBounds_toArray, List.set_cons_zero, List.set_cons_succ])
    refine wpAnyH_ready (rs := [6]) (by kernel_rfl) (by simp) ?_
    refine AllReadyH.cons (o := { dst := some 27, op := _, type := _, pos := _, after := _, guard := _ }) rfl (fun K1x6 hK1x6 => ?_) AllReadyH.nil
    go_simp
    refine hK1x6.out _ _ (by exact HS4.out) (fun hHeld1x6 => ?_)
    clear hK1x6 K1x6
    (try simp only [Act.put, List.setIfInBounds_toArray, List.set_cons_zero, List.set_cons_succ])
    refine wpAnyH_take (i := 7) (oi := { dst := some 28, op := _, type := _, pos := _, after := _, guard := _ }) (v := ?v1x7) rfl (by kernel_rfl) (by kernel_rfl) (by kernel_rfl) (fun _ _ _ h => h) (Or.inl ⟨by kernel_rfl, ?y1x7⟩) (by assumption) ?r1x7
    case y1x7 =>
      intro wS hSw
      (try dsimp only at hSw)
      first | (go_simp; done) | (go_simp; with_reducible rfl)
    (try simp only [Act.put, List.setIfInBounds_toArray, List.set_cons_zero, List.set_cons_succ])
    refine wpAnyH_take (i := 8) (oi := { dst := some 29, op := _, type := _, pos := _, after := _, guard := _ }) (v := ?v1x8) rfl (by kernel_rfl) (by kernel_rfl) (by kernel_rfl) (fun _ _ _ h => h) (Or.inl ⟨by kernel_rfl, ?y1x8⟩) (by assumption) ?r1x8
    case y1x8 =>
      intro wS hSw
      (try dsimp only at hSw)
      first | (go_simp; done) | (go_simp; with_reducible rfl)
    (try simp only [Act.put, List.setIfInBounds_toArray, List.set_cons_zero, List.set_cons_succ])
    refine wpAnyH_take (i := 9) (oi := { dst := some 30, op := _, type := _, pos := _, after := _, guard := _ }) (v := ?v1x9) rfl (by kernel_rfl) (by kernel_rfl) (by kernel_rfl) (fun _ _ _ h => h) (Or.inl ⟨by kernel_rfl, ?y1x9⟩) (by assumption) ?r1x9
    case y1x9 =>
      intro wS hSw
      (try dsimp only at hSw)
      first | (go_simp; done) | (go_simp; with_reducible rfl)
    (try simp only [Act.put, List.setIfInBounds_toArray, List.set_cons_zero, List.set_cons_succ])
    refine wpAnyH_take (i := 10) (oi := { dst := some 31, op := _, type := _, pos := _, after := _, guard := _ }) (v := ?v1x10) rfl (by kernel_rfl) (by kernel_rfl) (by kernel_rfl) (fun _ _ _ h => h) (Or.inl ⟨by kernel_rfl, ?y1x10⟩) (by assumption) ?r1x10
    case y1x10 =>
      intro wS hSw
      (try dsimp only at hSw)
      first | (go_simp; done) | (go_simp; with_reducible rfl)
    (try simp only [Act.put, List.setIfInBounds_toArray, List.set_cons_zero, List.set_cons_succ])
    refine wpAnyH_take (i := 11) (oi := { dst := some 32, op := _, type := _, pos := _, after := _, guard := _ }) (v := ?v1x11) rfl (by kernel_rfl) (by kernel_rfl) (by kernel_rfl) (fun _ _ _ h => h) (Or.inl ⟨by kernel_rfl, ?y1x11⟩) (by assumption) ?r1x11
    case y1x11 =>
      intro wS hSw
      (try dsimp only at hSw)
      first | (go_simp; done) | (go_simp; with_reducible rfl)
    (try simp only [Act.put, List.setIfInBounds_toArray, List.set_cons_zero, List.set_cons_succ])
    refine wpAnyH_take (i := 12) (oi := { dst := some 33, op := _, type := _, pos := _, after := _, guard := _ }) (v := ?v1x12) rfl (by kernel_rfl) (by kernel_rfl) (by kernel_rfl) (fun _ _ _ h => h) (Or.inl ⟨by kernel_rfl, ?y1x12⟩) (by assumption) ?r1x12
    case y1x12 =>
      intro wS hSw
      (try dsimp only at hSw)
      first | (go_simp; done) | (go_simp; with_reducible rfl)
    (try simp only [Act.put, List.setIfInBounds_toArray, List.set_cons_zero, List.set_cons_succ])
    refine wpAnyH_take (i := 13) (oi := { dst := some 34, op := _, type := _, pos := _, after := _, guard := _ }) (v := ?v1x13) rfl (by kernel_rfl) (by kernel_rfl) (by kernel_rfl) (fun _ _ _ h => h) (Or.inl ⟨by kernel_rfl, ?y1x13⟩) (by assumption) ?r1x13
    case y1x13 =>
      intro wS hSw
      (try dsimp only at hSw)
      first | (go_simp; done) | (go_simp; with_reducible rfl)
    (try simp only [Act.put, List.setIfInBounds_toArray, List.set_cons_zero, List.set_cons_succ])
    refine wpAnyH_take (i := 14) (oi := { dst := some 35, op := _, type := _, pos := _, after := _, guard := _ }) (v := ?v1x14) rfl (by kernel_rfl) (by kernel_rfl) (by kernel_rfl) (fun _ _ _ h => h) (Or.inl ⟨by kernel_rfl, ?y1x14⟩) (by assumption) ?r1x14
    case y1x14 =>
      intro wS hSw
      (try dsimp only at hSw)
      first | (go_simp; done) | (go_simp; with_reducible rfl)
    (try simp only [Act.put, List.setIfInBounds_toArray, List.set_cons_zero, List.set_cons_succ])
    refine wpAnyH_take (i := 15) (oi := { dst := some 36, op := _, type := _, pos := _, after := _, guard := _ }) (v := ?v1x15) rfl (by kernel_rfl) (by kernel_rfl) (by kernel_rfl) (fun _ _ _ h => h) (Or.inl ⟨by kernel_rfl, ?y1x15⟩) (by assumption) ?r1x15
    case y1x15 =>
      intro wS hSw
      (try dsimp only at hSw)
      first | (go_simp; done) | (go_simp; with_reducible rfl)
    (try simp only [Act.put, List.setIfInBounds_toArray, List.set_cons_zero, List.set_cons_succ])
    refine wpAnyH_take (i := 16) (oi := { dst := some 37, op := _, type := _, pos := _, after := _, guard := _ }) (v := ?v1x16) rfl (by kernel_rfl) (by kernel_rfl) (by kernel_rfl) (fun _ _ _ h => h) (Or.inl ⟨by kernel_rfl, ?y1x16⟩) (by assumption) ?r1x16
    case y1x16 =>
      intro wS hSw
      (try dsimp only at hSw)
      first | (go_simp; done) | (go_simp; with_reducible rfl)
    (try simp only [Act.put, List.setIfInBounds_toArray, List.set_cons_zero, List.set_cons_succ])
    refine wpAnyH_take (i := 17) (oi := { dst := some 38, op := _, type := _, pos := _, after := _, guard := _ }) (v := ?v1x17) rfl (by kernel_rfl) (by kernel_rfl) (by kernel_rfl) (fun _ _ _ h => h) (Or.inl ⟨by kernel_rfl, ?y1x17⟩) (by assumption) ?r1x17
    case y1x17 =>
      intro wS hSw
      (try dsimp only at hSw)
      first | (go_simp; done) | (go_simp; with_reducible rfl)
    (try simp only [Act.put, List.setIfInBounds_toArray, List.set_cons_zero, List.set_cons_succ])
    refine wpAnyH_ready (rs := [18]) (by kernel_rfl) (by simp) ?_
    refine AllReadyH.cons (o := { dst := some 39, op := _, type := _, pos := _, after := _, guard := _ }) rfl (fun K1x18 hK1x18 => ?_) AllReadyH.nil
    go_simp
    refine (puts_any _).mono ?_
    rintro e w5 ⟨rfl, hb5⟩
    have HS5 := Lib.hid (And.intro ((HS4.out.1).below (hb5.mono Hb4.out.size)) (And.intro (conv_reads (c := c3) ((HS4.out.1).below (hb5.mono Hb4.out.size))) (And.intro ((HS4.out.2.2.1).below (hb5.mono (Nat.le_trans HB3d.out Hb4.out.size))) (And.intro (conv_reads (c := cap0) ((HS4.out.2.2.1).below (hb5.mono (Nat.le_trans HB3d.out Hb4.out.size)))) (cell_below HS4.out.2.2.2.2 hb5)))))
    have Hb5 := Lib.hid hb5
    clear hb5
    go_simp
    refine hK1x18.out _ _ (by exact HS5.out) (fun hHeld1x18 => ?_)
    clear hK1x18 K1x18
    (try simp only [Act.put, List.setIfInBounds_toArray, List.set_cons_zero, List.set_cons_succ])
    refine wpAnyH_take (i := 19) (oi := { dst := some 40, op := _, type := _, pos := _, after := _, guard := _ }) (v := ?v1x19) rfl (by kernel_rfl) (by kernel_rfl) (by kernel_rfl) (fun _ _ _ h => h) (Or.inl ⟨by kernel_rfl, ?y1x19⟩) (by assumption) ?r1x19
    case y1x19 =>
      intro wS hSw
      (try dsimp only at hSw)
      first | (go_simp; done) | (go_simp; with_reducible rfl)
    (try simp only [Act.put, List.setIfInBounds_toArray, List.set_cons_zero, List.set_cons_succ])
    refine wpAnyH_take (i := 20) (oi := { dst := some 4, op := _, type := _, pos := _, after := _, guard := _ }) (v := ?v1x20) rfl (by kernel_rfl) (by kernel_rfl) (by kernel_rfl) (fun _ _ _ h => h) (Or.inl ⟨by kernel_rfl, ?y1x20⟩) (by assumption) ?r1x20
    case y1x20 =>
      intro wS hSw
      (try dsimp only at hSw)
      first | (go_simp; done) | (go_simp; with_reducible rfl)
    (try simp only [Act.put, List.setIfInBounds_toArray, List.set_cons_zero, List.set_cons_succ])
    refine wpAnyH_done (by kernel_rfl) ?_ _
    (try dsimp only [Act.put])
    (try simp only [Act.put, List.setIfInBounds_toArray, List.set_cons_zero, List.set_cons_succ])
    go_wp2_with fail
    go_ret
    exact ⟨rfl, HB3.out.drew.trans ((Hb4.out.mono HB3.out.size).trans (Hb5.out.mono (Nat.le_trans HB3.out.size Hb4.out.size)))⟩
  · go_enter Try.func3, Try.ntmps3
    go_wp2_with fail
    go_ret
    exact ⟨rfl, Below.refl _ _⟩

/-! ### THE ROW's STEP: WRITTEN OUT: LEAVE IT -/
set_option maxRecDepth 100000 in
theorem lifted (os : Os) (started : os.Started) (H : Type) (enc : TypeId × Value → H) :
    ReturnsInHanded {} Try.checked os 3 .any (Rows.varintPutsSpec.pre6 enc Try.prog Try.f3 Rows.varintPutsRow.domain false) (Rows.varintPutsSpec.post enc Try.prog Try.f3 false true false false) := by
  refine returnsInHanded_of_change (C := Try.checked) own started (by kernel_rfl) Try.func3
    (ChangeSpec.witness6 (enc := enc) (C := Try.checked) false ⟨#[], #[.slice none 0 0, .int .u64 0], []⟩ 8 (by kernel_rfl) (by kernel_rfl) (by kernel_rfl) (by kernel_rfl)) ?_
  intro W base args ds gs before hval0 hW hcnd _
  have hval : ∀ (j : Nat) t v, Try.f3.params[j]? = some t → args[j]? = some v → Value.okWide Try.prog W .any base t v := hval0
  have hW' := hW
  obtain ⟨p, q, hA0, hV, rfl, hfz, hnd⟩ := hW
  have hA : DataW.TrodAll enc Try.prog W 0 (fun _ => true) true Try.f3.params.toList args.toList ds p := hA0
  rw [Try.params3] at hA hval
  obtain ⟨v0, vs0, d0, ds0, p0, q0, hargs, rfl, rfl, h0, r0⟩ := trodAll_cons hA
  obtain ⟨v1, vs1, d1, ds1, p1, q1, rfl, rfl, rfl, h1, r1⟩ := trodAll_cons r0
  obtain ⟨rfl, rfl, rfl⟩ := trodAll_nil r1
  obtain rfl : args = #[v0, v1] := by cases args; simp_all
  obtain ⟨rfl, rfl⟩ := trodVars_none hV
  obtain ⟨a0, len0, cap0, rfl⟩ := okWide_slice Try.underlying22 (hval 0 22 v0 rfl rfl)
  have k0 := h0
  have lt0 : ∀ x ∈ p0, x.block < W.heap.size := by obtain ⟨m, hm⟩ := k0; exact DataW.trod_lt m _ _ _ hm
  obtain ⟨z0, w0⟩ : ∃ zs, IsRow .u8 W a0 len0 cap0 zs := by
    obtain ⟨fuel, hf⟩ := h0
    rcases open_ints Try.underlying22 Try.underlying5 (by kernel_rfl) hf with ⟨hcs, _⟩ | ⟨x, l, c, zs, hcs, _, hl, hm, hz, _, hcell, hwz⟩
    · simp [Value.cells] at hcs
      obtain ⟨rfl, rfl, rfl⟩ := hcs
      exact ⟨[], .inl ⟨rfl, rfl, rfl, rfl⟩⟩
    · simp [Value.cells] at hcs
      obtain ⟨rfl, rfl, rfl⟩ := hcs
      exact ⟨zs, .inr ⟨_, rfl, hl, hm, by simpa using hz, hcell, hwz⟩⟩
  obtain ⟨a1, rfl, rfl, rfl, w1⟩ := open_int Try.underlying23 (hval 1 23 v1 rfl rfl) h1
  clear hA0 hval0
  refine (walk a0 len0 cap0 z0 a1 W w0 w1).mono fun e W' ⟨he, bel⟩ => ?_
  subst he
  exact ⟨_, rfl, _, _, _, [], _, [], hW', trodAll_mk1 (shut_bool Try.underlying4 _), (trodAll_cons_mk (Below.trod laidOut (by kernel_rfl) (of_decide_eq_true (by kernel_rfl)) k0 bel lt0) (trodAll_cons_mk (shut_int Try.underlying23 w1) trodAll_mk0)), rfl, bel.frame _, fun h => by cases h⟩

theorem over : Rows.varintPutsRow.holds Try.pinned (OpenSpec.ofChange Rows.varintPutsSpec) :=
  OpenClaim.holds_of_wide 3 Try.f3 rfl rfl rfl rfl rfl rfl rfl ⟨rfl, rfl, rfl, rfl, rfl⟩ rfl rfl rfl rfl rfl (by kernel_rfl) Try.func3 (by kernel_rfl)
    (of_decide_eq_true (by kernel_rfl)) (by unfold Func.isWrapper; first | (rw [if_pos (by decide +kernel)]; kernel_rfl) | (rw [if_neg (by decide +kernel)]; exact ⟨rfl, rfl⟩))
    (fun os started H enc _ => lifted os started H enc)

/-- The statement. -/
theorem proved : Rows.VarintPutsSaid := over
#print axioms proved
end Go.Proofs.Ytfpegfngogkmmaa.varintPuts
