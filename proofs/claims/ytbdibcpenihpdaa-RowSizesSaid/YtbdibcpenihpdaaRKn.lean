/-
  Layer row: the chapter's examples, reckoned by the evaluator. No condition.
-/
import Derived.Test.YtbdibcpenihpdaaEvT
import Derived.Test.YtbdibcpenihpdaaDlU
set_option linter.unusedSimpArgs false
set_option linter.unusedVariables false
namespace Go.Proofs.Ytbdibcpenihpdaa
open Go.DL
theorem rowKnown : Fun Try.prog 8 [] (· = .v (.bool true)) := Fun.ofEval EvT.tab 100000 8 [] (by kernel_rfl)
theorem rowPuts : Fun Try.prog 19 [] (· = .v (.bool true)) := Fun.ofEval EvT.tab 100000 19 [] (by kernel_rfl)
end Go.Proofs.Ytbdibcpenihpdaa
