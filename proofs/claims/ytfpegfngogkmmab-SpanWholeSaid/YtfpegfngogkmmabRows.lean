/-
  No cell of these rows narrows 'for every input' (looked for: loops, veiled, ifaces, maps, wideKeys, modest, calm, conditions, laid).
  DERIVED. THE GIVEN ROWS OF THIS SEAT. 5 by the template 'for every input the law returns true; each argument reads behind the call as it read before'; 0 by the template 'total and deterministic' (their statements: YtfpegfngogkmmabTotals.lean).
  GIVEN WITH THE SEED: the statements are not yours to turn. If you find one false, say at which input.
  Laid BY PROGRAM, IN A SANDBOX (cutbox-rows.mjs): the forced cells as the released guide's own fill.sh prints them over the translation 28141ab6ef5266a5… (all of the seat's roots in one cut). By AI agents, Wed Nov 11 2026. No macro, syntax, notation, axiom, sorry.
-/
import Derived.Test.YtfpegfngogkmmabChecked
import GoSem.Claim
import GoSem.ClaimJoined
import GoSem.ClaimMapViews
import Derived.JoinedTies
import Derived.KernelRfl
namespace Go.Proofs.Ytfpegfngogkmmab
/- THE CELL 'sum', in the pinned program and in every row, IS THE sha256 OF THE DUMP (.gsa) THAT YtfpegfngogkmmabProg.lean LOADS. Nothing in Lean hashes anything: it is a label: what it is worth is what the hold of that sum in a sandbox is worth. -/
noncomputable def Try.pinned : Pinned := { name := "ytfpegfngogkmmab", sum := "28141ab6ef5266a572577389ef7ad45a8484983a0138672c7b952630d958e729", checked := Try.checked }
namespace Rows
def none {H : Type} : Left H := { results := [], args := [] }

/-- 'tidelinelaw09.SpanTells': WHATEVER THE INPUT: true; the input reads as it did. -/
def spanTellsSpec : ChangeSpec := { name := "spanTells", fn := fun _ => fun
  | [d1, d2, d3, d4] => { results := [.lit (.bool true)], args := [d1, d2, d3, d4] }
  | _ => none }
def spanTellsRow : OpenClaim := { program := "ytfpegfngogkmmab", sum := "28141ab6ef5266a572577389ef7ad45a8484983a0138672c7b952630d958e729", func := "tideline/tidelinelaw09.SpanTells", spec := "spanTells", unfollowed := true, recurses := true, apart := false }
def SpanTellsSaid : Prop := spanTellsRow.holds Try.pinned (OpenSpec.ofChange spanTellsSpec)

/-- ITS FALSE NEIGHBOUR: 'it returns false'. Refute it at one input. -/
def spanTellsWrong : ChangeSpec := { name := "spanTells", fn := fun _ => fun
  | [d1, d2, d3, d4] => { results := [.lit (.bool false)], args := [d1, d2, d3, d4] }
  | _ => none }
def SpanTellsWrongFalsely : Prop := spanTellsRow.holds Try.pinned (OpenSpec.ofChange spanTellsWrong)

/-- 'tidelinelaw09.SpanBuckets': WHATEVER THE INPUT: true; the input reads as it did. -/
def spanBucketsSpec : ChangeSpec := { name := "spanBuckets", fn := fun _ => fun
  | [d1, d2, d3, d4] => { results := [.lit (.bool true)], args := [d1, d2, d3, d4] }
  | _ => none }
def spanBucketsRow : OpenClaim := { program := "ytfpegfngogkmmab", sum := "28141ab6ef5266a572577389ef7ad45a8484983a0138672c7b952630d958e729", func := "tideline/tidelinelaw09.SpanBuckets", spec := "spanBuckets", unfollowed := true, recurses := true, apart := false }
def SpanBucketsSaid : Prop := spanBucketsRow.holds Try.pinned (OpenSpec.ofChange spanBucketsSpec)

/-- ITS FALSE NEIGHBOUR: 'it returns false'. Refute it at one input. -/
def spanBucketsWrong : ChangeSpec := { name := "spanBuckets", fn := fun _ => fun
  | [d1, d2, d3, d4] => { results := [.lit (.bool false)], args := [d1, d2, d3, d4] }
  | _ => none }
def SpanBucketsWrongFalsely : Prop := spanBucketsRow.holds Try.pinned (OpenSpec.ofChange spanBucketsWrong)

/-- 'tidelinelaw09.SpanWhole': WHATEVER THE INPUT: true; the input reads as it did. -/
def spanWholeSpec : ChangeSpec := { name := "spanWhole", fn := fun _ => fun
  | [d1, d2, d3] => { results := [.lit (.bool true)], args := [d1, d2, d3] }
  | _ => none }
def spanWholeRow : OpenClaim := { program := "ytfpegfngogkmmab", sum := "28141ab6ef5266a572577389ef7ad45a8484983a0138672c7b952630d958e729", func := "tideline/tidelinelaw09.SpanWhole", spec := "spanWhole", unfollowed := true, recurses := true, apart := false }
def SpanWholeSaid : Prop := spanWholeRow.holds Try.pinned (OpenSpec.ofChange spanWholeSpec)

/-- ITS FALSE NEIGHBOUR: 'it returns false'. Refute it at one input. -/
def spanWholeWrong : ChangeSpec := { name := "spanWhole", fn := fun _ => fun
  | [d1, d2, d3] => { results := [.lit (.bool false)], args := [d1, d2, d3] }
  | _ => none }
def SpanWholeWrongFalsely : Prop := spanWholeRow.holds Try.pinned (OpenSpec.ofChange spanWholeWrong)

/-- 'tidelinelaw09.SpanAnds': WHATEVER THE INPUT: true; the input reads as it did. -/
def spanAndsSpec : ChangeSpec := { name := "spanAnds", fn := fun _ => fun
  | [d1, d2, d3, d4] => { results := [.lit (.bool true)], args := [d1, d2, d3, d4] }
  | _ => none }
def spanAndsRow : OpenClaim := { program := "ytfpegfngogkmmab", sum := "28141ab6ef5266a572577389ef7ad45a8484983a0138672c7b952630d958e729", func := "tideline/tidelinelaw09.SpanAnds", spec := "spanAnds", unfollowed := true, recurses := true, apart := false }
def SpanAndsSaid : Prop := spanAndsRow.holds Try.pinned (OpenSpec.ofChange spanAndsSpec)

/-- ITS FALSE NEIGHBOUR: 'it returns false'. Refute it at one input. -/
def spanAndsWrong : ChangeSpec := { name := "spanAnds", fn := fun _ => fun
  | [d1, d2, d3, d4] => { results := [.lit (.bool false)], args := [d1, d2, d3, d4] }
  | _ => none }
def SpanAndsWrongFalsely : Prop := spanAndsRow.holds Try.pinned (OpenSpec.ofChange spanAndsWrong)

/-- 'tidelinelaw09.SpanTiles': WHATEVER THE INPUT: true; the input reads as it did. -/
def spanTilesSpec : ChangeSpec := { name := "spanTiles", fn := fun _ => fun
  | [d1, d2] => { results := [.lit (.bool true)], args := [d1, d2] }
  | _ => none }
def spanTilesRow : OpenClaim := { program := "ytfpegfngogkmmab", sum := "28141ab6ef5266a572577389ef7ad45a8484983a0138672c7b952630d958e729", func := "tideline/tidelinelaw09.SpanTiles", spec := "spanTiles", unfollowed := true, recurses := true, apart := false }
def SpanTilesSaid : Prop := spanTilesRow.holds Try.pinned (OpenSpec.ofChange spanTilesSpec)

/-- ITS FALSE NEIGHBOUR: 'it returns false'. Refute it at one input. -/
def spanTilesWrong : ChangeSpec := { name := "spanTiles", fn := fun _ => fun
  | [d1, d2] => { results := [.lit (.bool false)], args := [d1, d2] }
  | _ => none }
def SpanTilesWrongFalsely : Prop := spanTilesRow.holds Try.pinned (OpenSpec.ofChange spanTilesWrong)

/- THE SECOND FORM. 'bulk': how many values and letters a reading holds, each counted each time it is reached (what is shared counts as often as it is met; a slice's spare places count too). A statement '..UptoSaid' is the law's where the arguments, and the package variables that the reading takes, are together of bulk at most 1048576: NARROWER than '..Said'. Prove '..Said' where nothing that the law and all that it calls make is longer than what came in: it says more and counts as full. Else prove '..UptoSaid'. A law counts once. -/
mutual
def uptoBulk {H : Type} : DataW H → Nat
  | .lit (.string bytes) => bytes.length + 1
  | .lit _ => 1
  | .nil => 1
  | .ptr d => uptoBulk d + 1
  | .slice elems spare => uptoBulkAll elems + uptoBulkAll spare + 1
  | .agg parts => uptoBulkAll parts + 1
  | .iface _ d => uptoBulk d + 1
  | .map entries => uptoBulkEntries entries + 1
  | .held _ => 1
def uptoBulkAll {H : Type} : List (DataW H) → Nat
  | [] => 0
  | d :: r => uptoBulk d + uptoBulkAll r
def uptoBulkEntries {H : Type} : List (Lit × DataW H) → Nat
  | [] => 0
  | x :: r => uptoBulkEntry x + uptoBulkEntries r
def uptoBulkEntry {H : Type} : Lit × DataW H → Nat
  | (.string bytes, d) => bytes.length + uptoBulk d + 1
  | (_, d) => uptoBulk d + 1
 end
def uptoSmall : (H : Type) → List (DataW H) → Bool := fun _ ds => decide (uptoBulkAll ds ≤ 1048576)
def OpenSpec.upto (s : _root_.Go.ChangeSpec) : _root_.Go.OpenSpec := { _root_.Go.OpenSpec.ofChange s with cond := some uptoSmall }

/-- 'tidelinelaw09.SpanTells', WHERE WHAT IT READS IS OF BULK AT MOST 1048576: true; the input reads as it did. -/
def spanTellsUptoRow : OpenClaim := { program := "ytfpegfngogkmmab", sum := "28141ab6ef5266a572577389ef7ad45a8484983a0138672c7b952630d958e729", func := "tideline/tidelinelaw09.SpanTells", spec := "spanTells", unfollowed := true, recurses := true, apart := false, narrowed := true }
def SpanTellsUptoSaid : Prop := spanTellsUptoRow.holds Try.pinned (OpenSpec.upto spanTellsSpec)

/-- 'tidelinelaw09.SpanBuckets', WHERE WHAT IT READS IS OF BULK AT MOST 1048576: true; the input reads as it did. -/
def spanBucketsUptoRow : OpenClaim := { program := "ytfpegfngogkmmab", sum := "28141ab6ef5266a572577389ef7ad45a8484983a0138672c7b952630d958e729", func := "tideline/tidelinelaw09.SpanBuckets", spec := "spanBuckets", unfollowed := true, recurses := true, apart := false, narrowed := true }
def SpanBucketsUptoSaid : Prop := spanBucketsUptoRow.holds Try.pinned (OpenSpec.upto spanBucketsSpec)

/-- 'tidelinelaw09.SpanWhole', WHERE WHAT IT READS IS OF BULK AT MOST 1048576: true; the input reads as it did. -/
def spanWholeUptoRow : OpenClaim := { program := "ytfpegfngogkmmab", sum := "28141ab6ef5266a572577389ef7ad45a8484983a0138672c7b952630d958e729", func := "tideline/tidelinelaw09.SpanWhole", spec := "spanWhole", unfollowed := true, recurses := true, apart := false, narrowed := true }
def SpanWholeUptoSaid : Prop := spanWholeUptoRow.holds Try.pinned (OpenSpec.upto spanWholeSpec)

/-- 'tidelinelaw09.SpanAnds', WHERE WHAT IT READS IS OF BULK AT MOST 1048576: true; the input reads as it did. -/
def spanAndsUptoRow : OpenClaim := { program := "ytfpegfngogkmmab", sum := "28141ab6ef5266a572577389ef7ad45a8484983a0138672c7b952630d958e729", func := "tideline/tidelinelaw09.SpanAnds", spec := "spanAnds", unfollowed := true, recurses := true, apart := false, narrowed := true }
def SpanAndsUptoSaid : Prop := spanAndsUptoRow.holds Try.pinned (OpenSpec.upto spanAndsSpec)

/-- 'tidelinelaw09.SpanTiles', WHERE WHAT IT READS IS OF BULK AT MOST 1048576: true; the input reads as it did. -/
def spanTilesUptoRow : OpenClaim := { program := "ytfpegfngogkmmab", sum := "28141ab6ef5266a572577389ef7ad45a8484983a0138672c7b952630d958e729", func := "tideline/tidelinelaw09.SpanTiles", spec := "spanTiles", unfollowed := true, recurses := true, apart := false, narrowed := true }
def SpanTilesUptoSaid : Prop := spanTilesUptoRow.holds Try.pinned (OpenSpec.upto spanTilesSpec)

end Rows
end Go.Proofs.Ytfpegfngogkmmab
