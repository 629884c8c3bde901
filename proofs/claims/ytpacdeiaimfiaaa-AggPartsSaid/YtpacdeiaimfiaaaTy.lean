/-
  Zero, cells and bytes of each type of the program, as the program says them. No condition.
-/
import Derived.Test.YtpacdeiaimfiaaaRows
import Derived.KernelRfl
import Derived.Test.YtpacdeiaimfiaaaDlL
namespace Go.Proofs.Ytpacdeiaimfiaaa.Ty
open Go.DL

theorem inf1 : (Try.prog.info? 1).map (fun i => (i.zero, i.size, i.bytes)) = some (some (.nilFunc), 1, 8) := by kernel_rfl
theorem inf2 : (Try.prog.info? 2).map (fun i => (i.zero, i.size, i.bytes)) = some (some (.int .i64 0), 1, 8) := by kernel_rfl
theorem inf3 : (Try.prog.info? 3).map (fun i => (i.zero, i.size, i.bytes)) = some (some (.int .i64 0), 1, 8) := by kernel_rfl
theorem inf4 : (Try.prog.info? 4).map (fun i => (i.zero, i.size, i.bytes)) = some (some (.bool false), 1, 1) := by kernel_rfl
theorem inf5 : (Try.prog.info? 5).map (fun i => (i.zero, i.size, i.bytes)) = some (some (.int .u8 0), 1, 1) := by kernel_rfl
theorem inf6 : (Try.prog.info? 6).map (fun i => (i.zero, i.size, i.bytes)) = some (some (.int .u8 0), 1, 1) := by kernel_rfl
theorem inf7 : (Try.prog.info? 7).map (fun i => (i.zero, i.size, i.bytes)) = some (some (.agg #[.int .i64 0, .int .i64 0, .bool false, .int .u8 0]), 4, 24) := by kernel_rfl
theorem inf8 : (Try.prog.info? 8).map (fun i => (i.zero, i.size, i.bytes)) = some (some (.agg #[.int .i64 0, .int .i64 0, .bool false, .int .u8 0]), 4, 24) := by kernel_rfl
theorem inf9 : (Try.prog.info? 9).map (fun i => (i.zero, i.size, i.bytes)) = some (some (.string ⟨#[]⟩), 1, 16) := by kernel_rfl
theorem inf10 : (Try.prog.info? 10).map (fun i => (i.zero, i.size, i.bytes)) = some (some (.string ⟨#[]⟩), 1, 16) := by kernel_rfl
theorem inf11 : (Try.prog.info? 11).map (fun i => (i.zero, i.size, i.bytes)) = some (some (.string ⟨#[]⟩), 1, 16) := by kernel_rfl
theorem inf12 : (Try.prog.info? 12).map (fun i => (i.zero, i.size, i.bytes)) = some (some (.int .u64 0), 1, 8) := by kernel_rfl
theorem inf13 : (Try.prog.info? 13).map (fun i => (i.zero, i.size, i.bytes)) = some (some (.agg #[.string ⟨#[]⟩, .int .u64 0]), 2, 24) := by kernel_rfl
theorem inf14 : (Try.prog.info? 14).map (fun i => (i.zero, i.size, i.bytes)) = some (some (.agg #[.string ⟨#[]⟩, .int .u64 0]), 2, 24) := by kernel_rfl
theorem inf15 : (Try.prog.info? 15).map (fun i => (i.zero, i.size, i.bytes)) = some (some (.pointer none), 1, 8) := by kernel_rfl
theorem inf16 : (Try.prog.info? 16).map (fun i => (i.zero, i.size, i.bytes)) = some (some (.pointer none), 1, 8) := by kernel_rfl
theorem inf17 : (Try.prog.info? 17).map (fun i => (i.zero, i.size, i.bytes)) = some (some (.pointer none), 1, 8) := by kernel_rfl
theorem inf18 : (Try.prog.info? 18).map (fun i => (i.zero, i.size, i.bytes)) = some (some (.agg #[.pointer none]), 1, 8) := by kernel_rfl
theorem inf19 : (Try.prog.info? 19).map (fun i => (i.zero, i.size, i.bytes)) = some (some (.agg #[.pointer none]), 1, 8) := by kernel_rfl
theorem inf20 : (Try.prog.info? 20).map (fun i => (i.zero, i.size, i.bytes)) = some (some (.nilIface), 1, 16) := by kernel_rfl
theorem inf21 : (Try.prog.info? 21).map (fun i => (i.zero, i.size, i.bytes)) = some (some (.int .i32 0), 1, 4) := by kernel_rfl
theorem inf22 : (Try.prog.info? 22).map (fun i => (i.zero, i.size, i.bytes)) = some (some (.agg #[.int .u8 0, .int .i64 0, .string ⟨#[]⟩]), 3, 32) := by kernel_rfl
theorem inf23 : (Try.prog.info? 23).map (fun i => (i.zero, i.size, i.bytes)) = some (some (.agg #[.int .u8 0, .int .i64 0, .string ⟨#[]⟩]), 3, 32) := by kernel_rfl
theorem inf24 : (Try.prog.info? 24).map (fun i => (i.zero, i.size, i.bytes)) = some (some (.pointer none), 1, 8) := by kernel_rfl
theorem inf25 : (Try.prog.info? 25).map (fun i => (i.zero, i.size, i.bytes)) = some (some (.nilFunc), 1, 8) := by kernel_rfl
theorem inf26 : (Try.prog.info? 26).map (fun i => (i.zero, i.size, i.bytes)) = some (some (.int .i64 0), 1, 8) := by kernel_rfl
theorem inf28 : (Try.prog.info? 28).map (fun i => (i.zero, i.size, i.bytes)) = some (some (.nilFunc), 1, 8) := by kernel_rfl
theorem inf30 : (Try.prog.info? 30).map (fun i => (i.zero, i.size, i.bytes)) = some (some (.nilFunc), 1, 8) := by kernel_rfl
theorem inf31 : (Try.prog.info? 31).map (fun i => (i.zero, i.size, i.bytes)) = some (some (.nilFunc), 1, 8) := by kernel_rfl
theorem inf32 : (Try.prog.info? 32).map (fun i => (i.zero, i.size, i.bytes)) = some (some (.nilFunc), 1, 8) := by kernel_rfl
theorem inf33 : (Try.prog.info? 33).map (fun i => (i.zero, i.size, i.bytes)) = some (some (.nilFunc), 1, 8) := by kernel_rfl
theorem inf34 : (Try.prog.info? 34).map (fun i => (i.zero, i.size, i.bytes)) = some (some (.nilFunc), 1, 8) := by kernel_rfl
theorem inf35 : (Try.prog.info? 35).map (fun i => (i.zero, i.size, i.bytes)) = some (some (.slice none 0 0), 1, 24) := by kernel_rfl
theorem inf36 : (Try.prog.info? 36).map (fun i => (i.zero, i.size, i.bytes)) = some (some (.slice none 0 0), 1, 24) := by kernel_rfl
theorem inf37 : (Try.prog.info? 37).map (fun i => (i.zero, i.size, i.bytes)) = some (some (.nilFunc), 1, 8) := by kernel_rfl
theorem inf38 : (Try.prog.info? 38).map (fun i => (i.zero, i.size, i.bytes)) = some (some (.nilFunc), 1, 8) := by kernel_rfl
theorem inf39 : (Try.prog.info? 39).map (fun i => (i.zero, i.size, i.bytes)) = some (some (.nilFunc), 1, 8) := by kernel_rfl
theorem inf40 : (Try.prog.info? 40).map (fun i => (i.zero, i.size, i.bytes)) = some (some (.slice none 0 0), 1, 24) := by kernel_rfl
theorem inf41 : (Try.prog.info? 41).map (fun i => (i.zero, i.size, i.bytes)) = some (some (.agg #[.int .u8 0, .int .i64 0, .string ⟨#[]⟩, .int .u8 0, .int .i64 0, .string ⟨#[]⟩]), 6, 64) := by kernel_rfl
theorem inf42 : (Try.prog.info? 42).map (fun i => (i.zero, i.size, i.bytes)) = some (some (.agg #[.int .u8 0, .int .i64 0, .string ⟨#[]⟩, .int .u8 0, .int .i64 0, .string ⟨#[]⟩]), 6, 64) := by kernel_rfl
theorem inf43 : (Try.prog.info? 43).map (fun i => (i.zero, i.size, i.bytes)) = some (some (.nilFunc), 1, 8) := by kernel_rfl
theorem inf44 : (Try.prog.info? 44).map (fun i => (i.zero, i.size, i.bytes)) = some (some (.slice none 0 0), 1, 24) := by kernel_rfl
theorem inf45 : (Try.prog.info? 45).map (fun i => (i.zero, i.size, i.bytes)) = some (some (.nilFunc), 1, 8) := by kernel_rfl
theorem inf46 : (Try.prog.info? 46).map (fun i => (i.zero, i.size, i.bytes)) = some (some (.nilFunc), 1, 8) := by kernel_rfl
theorem inf47 : (Try.prog.info? 47).map (fun i => (i.zero, i.size, i.bytes)) = some (some (.nilFunc), 1, 8) := by kernel_rfl
theorem inf48 : (Try.prog.info? 48).map (fun i => (i.zero, i.size, i.bytes)) = some (some (.nilFunc), 1, 8) := by kernel_rfl
theorem inf49 : (Try.prog.info? 49).map (fun i => (i.zero, i.size, i.bytes)) = some (some (.nilFunc), 1, 8) := by kernel_rfl
theorem inf50 : (Try.prog.info? 50).map (fun i => (i.zero, i.size, i.bytes)) = some (some (.nilFunc), 1, 8) := by kernel_rfl
theorem inf51 : (Try.prog.info? 51).map (fun i => (i.zero, i.size, i.bytes)) = some (some (.nilFunc), 1, 8) := by kernel_rfl
theorem inf52 : (Try.prog.info? 52).map (fun i => (i.zero, i.size, i.bytes)) = some (some (.agg #[.int .i64 0, .nilFunc, .nilFunc, .nilFunc]), 4, 32) := by kernel_rfl
theorem inf53 : (Try.prog.info? 53).map (fun i => (i.zero, i.size, i.bytes)) = some (some (.agg #[.int .i64 0, .nilFunc, .nilFunc, .nilFunc]), 4, 32) := by kernel_rfl
theorem inf54 : (Try.prog.info? 54).map (fun i => (i.zero, i.size, i.bytes)) = some (some (.int .u64 0), 1, 8) := by kernel_rfl
theorem inf55 : (Try.prog.info? 55).map (fun i => (i.zero, i.size, i.bytes)) = some (some (.agg #[.int .u64 0, .int .u64 0]), 2, 16) := by kernel_rfl
theorem inf56 : (Try.prog.info? 56).map (fun i => (i.zero, i.size, i.bytes)) = some (some (.agg #[.int .u64 0, .int .u64 0]), 2, 16) := by kernel_rfl
theorem inf57 : (Try.prog.info? 57).map (fun i => (i.zero, i.size, i.bytes)) = some (some (.agg #[.int .u8 0, .int .u64 0, .int .u64 0, .int .u64 0, .bool false, .bool false, .int .u8 0, .int .i64 0, .string ⟨#[]⟩, .int .u8 0, .int .i64 0, .string ⟨#[]⟩, .int .i64 0, .nilFunc, .nilFunc, .nilFunc]), 16, 136) := by kernel_rfl
theorem inf58 : (Try.prog.info? 58).map (fun i => (i.zero, i.size, i.bytes)) = some (some (.agg #[.int .u8 0, .int .u64 0, .int .u64 0, .int .u64 0, .bool false, .bool false, .int .u8 0, .int .i64 0, .string ⟨#[]⟩, .int .u8 0, .int .i64 0, .string ⟨#[]⟩, .int .i64 0, .nilFunc, .nilFunc, .nilFunc]), 16, 136) := by kernel_rfl
theorem inf60 : (Try.prog.info? 60).map (fun i => (i.zero, i.size, i.bytes)) = some (some (.map none), 1, 8) := by kernel_rfl
theorem inf61 : (Try.prog.info? 61).map (fun i => (i.zero, i.size, i.bytes)) = some (some (.nilFunc), 1, 8) := by kernel_rfl
theorem inf62 : (Try.prog.info? 62).map (fun i => (i.zero, i.size, i.bytes)) = some (some (.nilFunc), 1, 8) := by kernel_rfl
theorem inf63 : (Try.prog.info? 63).map (fun i => (i.zero, i.size, i.bytes)) = some (some (.nilFunc), 1, 8) := by kernel_rfl
theorem inf64 : (Try.prog.info? 64).map (fun i => (i.zero, i.size, i.bytes)) = some (some (.nilFunc), 1, 8) := by kernel_rfl
theorem inf65 : (Try.prog.info? 65).map (fun i => (i.zero, i.size, i.bytes)) = some (some (.nilFunc), 1, 8) := by kernel_rfl
theorem inf66 : (Try.prog.info? 66).map (fun i => (i.zero, i.size, i.bytes)) = some (some (.nilFunc), 1, 8) := by kernel_rfl
theorem inf67 : (Try.prog.info? 67).map (fun i => (i.zero, i.size, i.bytes)) = some (some (.nilFunc), 1, 8) := by kernel_rfl
theorem inf68 : (Try.prog.info? 68).map (fun i => (i.zero, i.size, i.bytes)) = some (some (.nilFunc), 1, 8) := by kernel_rfl
theorem inf69 : (Try.prog.info? 69).map (fun i => (i.zero, i.size, i.bytes)) = some (some (.nilFunc), 1, 8) := by kernel_rfl
theorem inf70 : (Try.prog.info? 70).map (fun i => (i.zero, i.size, i.bytes)) = some (some (.nilFunc), 1, 8) := by kernel_rfl
theorem inf71 : (Try.prog.info? 71).map (fun i => (i.zero, i.size, i.bytes)) = some (some (.nilFunc), 1, 8) := by kernel_rfl
theorem inf72 : (Try.prog.info? 72).map (fun i => (i.zero, i.size, i.bytes)) = some (some (.nilFunc), 1, 8) := by kernel_rfl
theorem inf74 : (Try.prog.info? 74).map (fun i => (i.zero, i.size, i.bytes)) = some (some (.nilFunc), 1, 8) := by kernel_rfl
theorem inf76 : (Try.prog.info? 76).map (fun i => (i.zero, i.size, i.bytes)) = some (some (.nilFunc), 1, 8) := by kernel_rfl
theorem inf77 : (Try.prog.info? 77).map (fun i => (i.zero, i.size, i.bytes)) = some (some (.int .u64 0), 1, 8) := by kernel_rfl
theorem inf78 : (Try.prog.info? 78).map (fun i => (i.zero, i.size, i.bytes)) = some (some (.nilFunc), 1, 8) := by kernel_rfl
theorem inf79 : (Try.prog.info? 79).map (fun i => (i.zero, i.size, i.bytes)) = some (some (.nilIface), 1, 16) := by kernel_rfl
theorem inf80 : (Try.prog.info? 80).map (fun i => (i.zero, i.size, i.bytes)) = some (some (.nilIface), 1, 16) := by kernel_rfl
theorem inf81 : (Try.prog.info? 81).map (fun i => (i.zero, i.size, i.bytes)) = some (some (.nilFunc), 1, 8) := by kernel_rfl
theorem inf82 : (Try.prog.info? 82).map (fun i => (i.zero, i.size, i.bytes)) = some (some (.pointer none), 1, 8) := by kernel_rfl
theorem inf83 : (Try.prog.info? 83).map (fun i => (i.zero, i.size, i.bytes)) = some (some (.nilFunc), 1, 8) := by kernel_rfl
theorem inf84 : (Try.prog.info? 84).map (fun i => (i.zero, i.size, i.bytes)) = some (some (.agg #[.pointer none, .pointer none, .pointer none, .string ⟨#[]⟩]), 4, 40) := by kernel_rfl
theorem inf85 : (Try.prog.info? 85).map (fun i => (i.zero, i.size, i.bytes)) = some (some (.agg #[.pointer none, .pointer none, .pointer none, .string ⟨#[]⟩]), 4, 40) := by kernel_rfl
theorem inf86 : (Try.prog.info? 86).map (fun i => (i.zero, i.size, i.bytes)) = some (some (.agg #[]), 0, 0) := by kernel_rfl
theorem inf87 : (Try.prog.info? 87).map (fun i => (i.zero, i.size, i.bytes)) = some (some (.agg #[]), 0, 0) := by kernel_rfl
theorem inf88 : (Try.prog.info? 88).map (fun i => (i.zero, i.size, i.bytes)) = some (some (.agg #[]), 0, 0) := by kernel_rfl
theorem inf89 : (Try.prog.info? 89).map (fun i => (i.zero, i.size, i.bytes)) = some (some (.nilFunc), 1, 8) := by kernel_rfl
theorem inf90 : (Try.prog.info? 90).map (fun i => (i.zero, i.size, i.bytes)) = some (some (.int .u32 0), 1, 4) := by kernel_rfl
theorem inf91 : (Try.prog.info? 91).map (fun i => (i.zero, i.size, i.bytes)) = some (some (.int .u8 0), 1, 1) := by kernel_rfl
theorem inf92 : (Try.prog.info? 92).map (fun i => (i.zero, i.size, i.bytes)) = some (some (.int .u8 0), 1, 1) := by kernel_rfl
theorem inf93 : (Try.prog.info? 93).map (fun i => (i.zero, i.size, i.bytes)) = some (some (.nilFunc), 1, 8) := by kernel_rfl
theorem inf94 : (Try.prog.info? 94).map (fun i => (i.zero, i.size, i.bytes)) = some (some (.pointer none), 1, 8) := by kernel_rfl
theorem inf95 : (Try.prog.info? 95).map (fun i => (i.zero, i.size, i.bytes)) = some (some (.int .i32 0), 1, 4) := by kernel_rfl
theorem inf96 : (Try.prog.info? 96).map (fun i => (i.zero, i.size, i.bytes)) = some (some (.int .i32 0), 1, 4) := by kernel_rfl
theorem inf97 : (Try.prog.info? 97).map (fun i => (i.zero, i.size, i.bytes)) = some (some (.agg #[.int .u64 0, .int .u64 0, .int .u32 0, .int .u8 0, .int .u8 0, .int .u8 0, .int .u8 0, .nilFunc, .pointer none, .int .i32 0, .int .i32 0]), 11, 48) := by kernel_rfl
theorem inf98 : (Try.prog.info? 98).map (fun i => (i.zero, i.size, i.bytes)) = some (some (.agg #[.int .u64 0, .int .u64 0, .int .u32 0, .int .u8 0, .int .u8 0, .int .u8 0, .int .u8 0, .nilFunc, .pointer none, .int .i32 0, .int .i32 0]), 11, 48) := by kernel_rfl
theorem inf99 : (Try.prog.info? 99).map (fun i => (i.zero, i.size, i.bytes)) = some (some (.agg #[.string ⟨#[]⟩]), 1, 16) := by kernel_rfl
theorem inf100 : (Try.prog.info? 100).map (fun i => (i.zero, i.size, i.bytes)) = some (some (.agg #[.string ⟨#[]⟩]), 1, 16) := by kernel_rfl
theorem inf101 : (Try.prog.info? 101).map (fun i => (i.zero, i.size, i.bytes)) = some (some (.pointer none), 1, 8) := by kernel_rfl
theorem cal3 : DL.Callee Try.prog 3 := DL.Callee.of Try.func3 (by kernel_rfl) (by kernel_rfl)
theorem cal4 : DL.Callee Try.prog 4 := DL.Callee.of Try.func4 (by kernel_rfl) (by kernel_rfl)
theorem cal5 : DL.Callee Try.prog 5 := DL.Callee.of Try.func5 (by kernel_rfl) (by kernel_rfl)
theorem cal6 : DL.Callee Try.prog 6 := DL.Callee.of Try.func6 (by kernel_rfl) (by kernel_rfl)
theorem cal7 : DL.Callee Try.prog 7 := DL.Callee.of Try.func7 (by kernel_rfl) (by kernel_rfl)
theorem cal8 : DL.Callee Try.prog 8 := DL.Callee.of Try.func8 (by kernel_rfl) (by kernel_rfl)
theorem cal9 : DL.Callee Try.prog 9 := DL.Callee.of Try.func9 (by kernel_rfl) (by kernel_rfl)
theorem cal10 : DL.Callee Try.prog 10 := DL.Callee.of Try.func10 (by kernel_rfl) (by kernel_rfl)
theorem cal11 : DL.Callee Try.prog 11 := DL.Callee.of Try.func11 (by kernel_rfl) (by kernel_rfl)
theorem cal12 : DL.Callee Try.prog 12 := DL.Callee.of Try.func12 (by kernel_rfl) (by kernel_rfl)
theorem cal13 : DL.Callee Try.prog 13 := DL.Callee.of Try.func13 (by kernel_rfl) (by kernel_rfl)
theorem cal14 : DL.Callee Try.prog 14 := DL.Callee.of Try.func14 (by kernel_rfl) (by kernel_rfl)
theorem cal15 : DL.Callee Try.prog 15 := DL.Callee.of Try.func15 (by kernel_rfl) (by kernel_rfl)
theorem cal16 : DL.Callee Try.prog 16 := DL.Callee.of Try.func16 (by kernel_rfl) (by kernel_rfl)
theorem cal17 : DL.Callee Try.prog 17 := DL.Callee.of Try.func17 (by kernel_rfl) (by kernel_rfl)
theorem cal18 : DL.Callee Try.prog 18 := DL.Callee.of Try.func18 (by kernel_rfl) (by kernel_rfl)
theorem cal19 : DL.Callee Try.prog 19 := DL.Callee.of Try.func19 (by kernel_rfl) (by kernel_rfl)
theorem cal20 : DL.Callee Try.prog 20 := DL.Callee.of Try.func20 (by kernel_rfl) (by kernel_rfl)
theorem cal21 : DL.Callee Try.prog 21 := DL.Callee.of Try.func21 (by kernel_rfl) (by kernel_rfl)
theorem cal22 : DL.Callee Try.prog 22 := DL.Callee.of Try.func22 (by kernel_rfl) (by kernel_rfl)
theorem cal23 : DL.Callee Try.prog 23 := DL.Callee.of Try.func23 (by kernel_rfl) (by kernel_rfl)
theorem cal24 : DL.Callee Try.prog 24 := DL.Callee.of Try.func24 (by kernel_rfl) (by kernel_rfl)
theorem cal25 : DL.Callee Try.prog 25 := DL.Callee.of Try.func25 (by kernel_rfl) (by kernel_rfl)
theorem cal26 : DL.Callee Try.prog 26 := DL.Callee.of Try.func26 (by kernel_rfl) (by kernel_rfl)
theorem cal27 : DL.Callee Try.prog 27 := DL.Callee.of Try.func27 (by kernel_rfl) (by kernel_rfl)
theorem cal28 : DL.Callee Try.prog 28 := DL.Callee.of Try.func28 (by kernel_rfl) (by kernel_rfl)
theorem cal29 : DL.Callee Try.prog 29 := DL.Callee.of Try.func29 (by kernel_rfl) (by kernel_rfl)
theorem cal30 : DL.Callee Try.prog 30 := DL.Callee.of Try.func30 (by kernel_rfl) (by kernel_rfl)
theorem cal31 : DL.Callee Try.prog 31 := DL.Callee.of Try.func31 (by kernel_rfl) (by kernel_rfl)
theorem cal32 : DL.Callee Try.prog 32 := DL.Callee.of Try.func32 (by kernel_rfl) (by kernel_rfl)
theorem cal33 : DL.Callee Try.prog 33 := DL.Callee.of Try.func33 (by kernel_rfl) (by kernel_rfl)
theorem cal34 : DL.Callee Try.prog 34 := DL.Callee.of Try.func34 (by kernel_rfl) (by kernel_rfl)
theorem cal35 : DL.Callee Try.prog 35 := DL.Callee.of Try.func35 (by kernel_rfl) (by kernel_rfl)
theorem cal36 : DL.Callee Try.prog 36 := DL.Callee.of Try.func36 (by kernel_rfl) (by kernel_rfl)
theorem cal37 : DL.Callee Try.prog 37 := DL.Callee.of Try.func37 (by kernel_rfl) (by kernel_rfl)
theorem cal38 : DL.Callee Try.prog 38 := DL.Callee.of Try.func38 (by kernel_rfl) (by kernel_rfl)
theorem cal39 : DL.Callee Try.prog 39 := DL.Callee.of Try.func39 (by kernel_rfl) (by kernel_rfl)
theorem cal40 : DL.Callee Try.prog 40 := DL.Callee.of Try.func40 (by kernel_rfl) (by kernel_rfl)
theorem cal41 : DL.Callee Try.prog 41 := DL.Callee.of Try.func41 (by kernel_rfl) (by kernel_rfl)
theorem cal42 : DL.Callee Try.prog 42 := DL.Callee.of Try.func42 (by kernel_rfl) (by kernel_rfl)
theorem cal43 : DL.Callee Try.prog 43 := DL.Callee.of Try.func43 (by kernel_rfl) (by kernel_rfl)
theorem cal44 : DL.Callee Try.prog 44 := DL.Callee.of Try.func44 (by kernel_rfl) (by kernel_rfl)
theorem cal45 : DL.Callee Try.prog 45 := DL.Callee.of Try.func45 (by kernel_rfl) (by kernel_rfl)
theorem cal46 : DL.Callee Try.prog 46 := DL.Callee.of Try.func46 (by kernel_rfl) (by kernel_rfl)
theorem cal49 : DL.Callee Try.prog 49 := DL.Callee.of Try.func49 (by kernel_rfl) (by kernel_rfl)
theorem cal50 : DL.Callee Try.prog 50 := DL.Callee.of Try.func50 (by kernel_rfl) (by kernel_rfl)
theorem cal51 : DL.Callee Try.prog 51 := DL.Callee.of Try.func51 (by kernel_rfl) (by kernel_rfl)
theorem pl19 {fs : Array Field} (h : Try.prog.underlying 19 = some (.struct fs)) : fs.toList.mapM (fun f => (Try.prog.info? f.type).map fun i => (f.offset, i.size)) = some [(0, 1)] := by
  rw [Try.underlying19] at h; cases h; kernel_rfl
theorem pl22 {fs : Array Field} (h : Try.prog.underlying 22 = some (.struct fs)) : fs.toList.mapM (fun f => (Try.prog.info? f.type).map fun i => (f.offset, i.size)) = some [(0, 1), (1, 1), (2, 1)] := by
  rw [Try.underlying22] at h; cases h; kernel_rfl
theorem fs22 : FlatS Try.prog 22 [.int .u8, .int .i64, .string] := ⟨by kernel_rfl, by kernel_rfl, by kernel_rfl, by kernel_rfl⟩
theorem pl23 {fs : Array Field} (h : Try.prog.underlying 23 = some (.struct fs)) : fs.toList.mapM (fun f => (Try.prog.info? f.type).map fun i => (f.offset, i.size)) = some [(0, 1), (1, 1), (2, 1)] := by
  rw [Try.underlying23] at h; cases h; kernel_rfl
theorem fs23 : FlatS Try.prog 23 [.int .u8, .int .i64, .string] := ⟨by kernel_rfl, by kernel_rfl, by kernel_rfl, by kernel_rfl⟩
theorem pl41 {fs : Array Field} (h : Try.prog.underlying 41 = some (.struct fs)) : fs.toList.mapM (fun f => (Try.prog.info? f.type).map fun i => (f.offset, i.size)) = some [(0, 3), (3, 3)] := by
  rw [Try.underlying41] at h; cases h; kernel_rfl
theorem pl42 {fs : Array Field} (h : Try.prog.underlying 42 = some (.struct fs)) : fs.toList.mapM (fun f => (Try.prog.info? f.type).map fun i => (f.offset, i.size)) = some [(0, 3), (3, 3)] := by
  rw [Try.underlying42] at h; cases h; kernel_rfl
theorem pl52 {fs : Array Field} (h : Try.prog.underlying 52 = some (.struct fs)) : fs.toList.mapM (fun f => (Try.prog.info? f.type).map fun i => (f.offset, i.size)) = some [(0, 1), (1, 1), (2, 1), (3, 1)] := by
  rw [Try.underlying52] at h; cases h; kernel_rfl
theorem pl53 {fs : Array Field} (h : Try.prog.underlying 53 = some (.struct fs)) : fs.toList.mapM (fun f => (Try.prog.info? f.type).map fun i => (f.offset, i.size)) = some [(0, 1), (1, 1), (2, 1), (3, 1)] := by
  rw [Try.underlying53] at h; cases h; kernel_rfl
theorem pl57 {fs : Array Field} (h : Try.prog.underlying 57 = some (.struct fs)) : fs.toList.mapM (fun f => (Try.prog.info? f.type).map fun i => (f.offset, i.size)) = some [(0, 1), (1, 1), (2, 2), (4, 1), (5, 1), (6, 3), (9, 3), (12, 4)] := by
  rw [Try.underlying57] at h; cases h; kernel_rfl
theorem pl58 {fs : Array Field} (h : Try.prog.underlying 58 = some (.struct fs)) : fs.toList.mapM (fun f => (Try.prog.info? f.type).map fun i => (f.offset, i.size)) = some [(0, 1), (1, 1), (2, 2), (4, 1), (5, 1), (6, 3), (9, 3), (12, 4)] := by
  rw [Try.underlying58] at h; cases h; kernel_rfl
theorem pl99 {fs : Array Field} (h : Try.prog.underlying 99 = some (.struct fs)) : fs.toList.mapM (fun f => (Try.prog.info? f.type).map fun i => (f.offset, i.size)) = some [(0, 1)] := by
  rw [Try.underlying99] at h; cases h; kernel_rfl
theorem fs99 : FlatS Try.prog 99 [.string] := ⟨by kernel_rfl, by kernel_rfl, by kernel_rfl, by kernel_rfl⟩
end Go.Proofs.Ytpacdeiaimfiaaa.Ty
