/-
  What the program says of its types and functions, laid so that it is looked up at once. No condition.
-/
import Derived.Test.YtbdibcpenihpdaaTy
import Derived.Test.YtbdibcpenihpdaaDlZc
set_option linter.unusedSimpArgs false
set_option linter.unusedVariables false
namespace Go.Proofs.Ytbdibcpenihpdaa.EvT
open Go.DL

noncomputable def y1 : TE Try.prog := ⟨1, _, _, _, _, Try.underlying1, Ty.inf1, rfl⟩
noncomputable def y2 : TE Try.prog := ⟨2, _, _, _, _, Try.underlying2, Ty.inf2, rfl⟩
noncomputable def y3 : TE Try.prog := ⟨3, _, _, _, _, Try.underlying3, Ty.inf3, rfl⟩
noncomputable def y4 : TE Try.prog := ⟨4, _, _, _, _, Try.underlying4, Ty.inf4, rfl⟩
noncomputable def y5 : TE Try.prog := ⟨5, _, _, _, _, Try.underlying5, Ty.inf5, rfl⟩
noncomputable def y6 : TE Try.prog := ⟨6, _, _, _, _, Try.underlying6, Ty.inf6, rfl⟩
noncomputable def y7 : TE Try.prog := ⟨7, _, _, _, _, Try.underlying7, Ty.inf7, rfl⟩
noncomputable def y8 : TE Try.prog := ⟨8, _, _, _, _, Try.underlying8, Ty.inf8, rfl⟩
noncomputable def y9 : TE Try.prog := ⟨9, _, _, _, _, Try.underlying9, Ty.inf9, rfl⟩
noncomputable def y10 : TE Try.prog := ⟨10, _, _, _, _, Try.underlying10, Ty.inf10, rfl⟩
noncomputable def y11 : TE Try.prog := ⟨11, _, _, _, _, Try.underlying11, Ty.inf11, rfl⟩
noncomputable def y12 : TE Try.prog := ⟨12, _, _, _, _, Try.underlying12, Ty.inf12, rfl⟩
noncomputable def y13 : TE Try.prog := ⟨13, _, _, _, _, Try.underlying13, Ty.inf13, rfl⟩
noncomputable def y14 : TE Try.prog := ⟨14, _, _, _, _, Try.underlying14, Ty.inf14, rfl⟩
noncomputable def y15 : TE Try.prog := ⟨15, _, _, _, _, Try.underlying15, Ty.inf15, rfl⟩
noncomputable def y16 : TE Try.prog := ⟨16, _, _, _, _, Try.underlying16, Ty.inf16, rfl⟩
noncomputable def y17 : TE Try.prog := ⟨17, _, _, _, _, Try.underlying17, Ty.inf17, rfl⟩
noncomputable def y18 : TE Try.prog := ⟨18, _, _, _, _, Try.underlying18, Ty.inf18, rfl⟩
noncomputable def y19 : TE Try.prog := ⟨19, _, _, _, _, Try.underlying19, Ty.inf19, rfl⟩
noncomputable def y20 : TE Try.prog := ⟨20, _, _, _, _, Try.underlying20, Ty.inf20, rfl⟩
noncomputable def y21 : TE Try.prog := ⟨21, _, _, _, _, Try.underlying21, Ty.inf21, rfl⟩
noncomputable def y22 : TE Try.prog := ⟨22, _, _, _, _, Try.underlying22, Ty.inf22, rfl⟩
noncomputable def y23 : TE Try.prog := ⟨23, _, _, _, _, Try.underlying23, Ty.inf23, rfl⟩
noncomputable def y24 : TE Try.prog := ⟨24, _, _, _, _, Try.underlying24, Ty.inf24, rfl⟩
noncomputable def y25 : TE Try.prog := ⟨25, _, _, _, _, Try.underlying25, Ty.inf25, rfl⟩
noncomputable def y27 : TE Try.prog := ⟨27, _, _, _, _, Try.underlying27, Ty.inf27, rfl⟩
noncomputable def y28 : TE Try.prog := ⟨28, _, _, _, _, Try.underlying28, Ty.inf28, rfl⟩
noncomputable def y29 : TE Try.prog := ⟨29, _, _, _, _, Try.underlying29, Ty.inf29, rfl⟩
noncomputable def y31 : TE Try.prog := ⟨31, _, _, _, _, Try.underlying31, Ty.inf31, rfl⟩
noncomputable def y32 : TE Try.prog := ⟨32, _, _, _, _, Try.underlying32, Ty.inf32, rfl⟩
noncomputable def y33 : TE Try.prog := ⟨33, _, _, _, _, Try.underlying33, Ty.inf33, rfl⟩
noncomputable def y34 : TE Try.prog := ⟨34, _, _, _, _, Try.underlying34, Ty.inf34, rfl⟩
noncomputable def y35 : TE Try.prog := ⟨35, _, _, _, _, Try.underlying35, Ty.inf35, rfl⟩
noncomputable def y36 : TE Try.prog := ⟨36, _, _, _, _, Try.underlying36, Ty.inf36, rfl⟩
noncomputable def y37 : TE Try.prog := ⟨37, _, _, _, _, Try.underlying37, Ty.inf37, rfl⟩
noncomputable def y38 : TE Try.prog := ⟨38, _, _, _, _, Try.underlying38, Ty.inf38, rfl⟩
noncomputable def y39 : TE Try.prog := ⟨39, _, _, _, _, Try.underlying39, Ty.inf39, rfl⟩
noncomputable def y40 : TE Try.prog := ⟨40, _, _, _, _, Try.underlying40, Ty.inf40, rfl⟩
noncomputable def y41 : TE Try.prog := ⟨41, _, _, _, _, Try.underlying41, Ty.inf41, rfl⟩
noncomputable def y42 : TE Try.prog := ⟨42, _, _, _, _, Try.underlying42, Ty.inf42, rfl⟩
noncomputable def y43 : TE Try.prog := ⟨43, _, _, _, _, Try.underlying43, Ty.inf43, rfl⟩
noncomputable def y44 : TE Try.prog := ⟨44, _, _, _, _, Try.underlying44, Ty.inf44, rfl⟩
noncomputable def y46 : TE Try.prog := ⟨46, _, _, _, _, Try.underlying46, Ty.inf46, rfl⟩
noncomputable def y47 : TE Try.prog := ⟨47, _, _, _, _, Try.underlying47, Ty.inf47, rfl⟩
noncomputable def y48 : TE Try.prog := ⟨48, _, _, _, _, Try.underlying48, Ty.inf48, rfl⟩
noncomputable def y49 : TE Try.prog := ⟨49, _, _, _, _, Try.underlying49, Ty.inf49, rfl⟩
noncomputable def y50 : TE Try.prog := ⟨50, _, _, _, _, Try.underlying50, Ty.inf50, rfl⟩
noncomputable def y51 : TE Try.prog := ⟨51, _, _, _, _, Try.underlying51, Ty.inf51, rfl⟩
noncomputable def y52 : TE Try.prog := ⟨52, _, _, _, _, Try.underlying52, Ty.inf52, rfl⟩
noncomputable def y53 : TE Try.prog := ⟨53, _, _, _, _, Try.underlying53, Ty.inf53, rfl⟩
noncomputable def y54 : TE Try.prog := ⟨54, _, _, _, _, Try.underlying54, Ty.inf54, rfl⟩
noncomputable def y55 : TE Try.prog := ⟨55, _, _, _, _, Try.underlying55, Ty.inf55, rfl⟩
noncomputable def y56 : TE Try.prog := ⟨56, _, _, _, _, Try.underlying56, Ty.inf56, rfl⟩
noncomputable def y57 : TE Try.prog := ⟨57, _, _, _, _, Try.underlying57, Ty.inf57, rfl⟩
noncomputable def y58 : TE Try.prog := ⟨58, _, _, _, _, Try.underlying58, Ty.inf58, rfl⟩
noncomputable def y59 : TE Try.prog := ⟨59, _, _, _, _, Try.underlying59, Ty.inf59, rfl⟩
noncomputable def y60 : TE Try.prog := ⟨60, _, _, _, _, Try.underlying60, Ty.inf60, rfl⟩
noncomputable def y61 : TE Try.prog := ⟨61, _, _, _, _, Try.underlying61, Ty.inf61, rfl⟩
noncomputable def y62 : TE Try.prog := ⟨62, _, _, _, _, Try.underlying62, Ty.inf62, rfl⟩
noncomputable def y63 : TE Try.prog := ⟨63, _, _, _, _, Try.underlying63, Ty.inf63, rfl⟩
noncomputable def y64 : TE Try.prog := ⟨64, _, _, _, _, Try.underlying64, Ty.inf64, rfl⟩
noncomputable def y65 : TE Try.prog := ⟨65, _, _, _, _, Try.underlying65, Ty.inf65, rfl⟩
noncomputable def y67 : TE Try.prog := ⟨67, _, _, _, _, Try.underlying67, Ty.inf67, rfl⟩
noncomputable def y68 : TE Try.prog := ⟨68, _, _, _, _, Try.underlying68, Ty.inf68, rfl⟩
noncomputable def y69 : TE Try.prog := ⟨69, _, _, _, _, Try.underlying69, Ty.inf69, rfl⟩
noncomputable def y70 : TE Try.prog := ⟨70, _, _, _, _, Try.underlying70, Ty.inf70, rfl⟩
noncomputable def y71 : TE Try.prog := ⟨71, _, _, _, _, Try.underlying71, Ty.inf71, rfl⟩
noncomputable def y72 : TE Try.prog := ⟨72, _, _, _, _, Try.underlying72, Ty.inf72, rfl⟩
noncomputable def y73 : TE Try.prog := ⟨73, _, _, _, _, Try.underlying73, Ty.inf73, rfl⟩
noncomputable def y74 : TE Try.prog := ⟨74, _, _, _, _, Try.underlying74, Ty.inf74, rfl⟩
noncomputable def y75 : TE Try.prog := ⟨75, _, _, _, _, Try.underlying75, Ty.inf75, rfl⟩
noncomputable def y76 : TE Try.prog := ⟨76, _, _, _, _, Try.underlying76, Ty.inf76, rfl⟩
noncomputable def y77 : TE Try.prog := ⟨77, _, _, _, _, Try.underlying77, Ty.inf77, rfl⟩
noncomputable def y79 : TE Try.prog := ⟨79, _, _, _, _, Try.underlying79, Ty.inf79, rfl⟩
noncomputable def y80 : TE Try.prog := ⟨80, _, _, _, _, Try.underlying80, Ty.inf80, rfl⟩
noncomputable def y82 : TE Try.prog := ⟨82, _, _, _, _, Try.underlying82, Ty.inf82, rfl⟩
noncomputable def y83 : TE Try.prog := ⟨83, _, _, _, _, Try.underlying83, Ty.inf83, rfl⟩
noncomputable def y84 : TE Try.prog := ⟨84, _, _, _, _, Try.underlying84, Ty.inf84, rfl⟩
noncomputable def y85 : TE Try.prog := ⟨85, _, _, _, _, Try.underlying85, Ty.inf85, rfl⟩
noncomputable def y86 : TE Try.prog := ⟨86, _, _, _, _, Try.underlying86, Ty.inf86, rfl⟩
noncomputable def y87 : TE Try.prog := ⟨87, _, _, _, _, Try.underlying87, Ty.inf87, rfl⟩
noncomputable def y88 : TE Try.prog := ⟨88, _, _, _, _, Try.underlying88, Ty.inf88, rfl⟩
noncomputable def y89 : TE Try.prog := ⟨89, _, _, _, _, Try.underlying89, Ty.inf89, rfl⟩
noncomputable def y90 : TE Try.prog := ⟨90, _, _, _, _, Try.underlying90, Ty.inf90, rfl⟩
noncomputable def y91 : TE Try.prog := ⟨91, _, _, _, _, Try.underlying91, Ty.inf91, rfl⟩
noncomputable def y92 : TE Try.prog := ⟨92, _, _, _, _, Try.underlying92, Ty.inf92, rfl⟩
noncomputable def y93 : TE Try.prog := ⟨93, _, _, _, _, Try.underlying93, Ty.inf93, rfl⟩
noncomputable def y94 : TE Try.prog := ⟨94, _, _, _, _, Try.underlying94, Ty.inf94, rfl⟩
noncomputable def y95 : TE Try.prog := ⟨95, _, _, _, _, Try.underlying95, Ty.inf95, rfl⟩
noncomputable def y96 : TE Try.prog := ⟨96, _, _, _, _, Try.underlying96, Ty.inf96, rfl⟩
noncomputable def y97 : TE Try.prog := ⟨97, _, _, _, _, Try.underlying97, Ty.inf97, rfl⟩
noncomputable def y98 : TE Try.prog := ⟨98, _, _, _, _, Try.underlying98, Ty.inf98, rfl⟩
noncomputable def y99 : TE Try.prog := ⟨99, _, _, _, _, Try.underlying99, Ty.inf99, rfl⟩
noncomputable def y100 : TE Try.prog := ⟨100, _, _, _, _, Try.underlying100, Ty.inf100, rfl⟩
noncomputable def y101 : TE Try.prog := ⟨101, _, _, _, _, Try.underlying101, Ty.inf101, rfl⟩
noncomputable def y102 : TE Try.prog := ⟨102, _, _, _, _, Try.underlying102, Ty.inf102, rfl⟩
noncomputable def y103 : TE Try.prog := ⟨103, _, _, _, _, Try.underlying103, Ty.inf103, rfl⟩
noncomputable def p19 : PlE Try.prog := ⟨19, _, fun _ h => Ty.pl19 h⟩
noncomputable def p36 : PlE Try.prog := ⟨36, _, fun _ h => Ty.pl36 h⟩
noncomputable def p37 : PlE Try.prog := ⟨37, _, fun _ h => Ty.pl37 h⟩
noncomputable def p38 : PlE Try.prog := ⟨38, _, fun _ h => Ty.pl38 h⟩
noncomputable def p39 : PlE Try.prog := ⟨39, _, fun _ h => Ty.pl39 h⟩
noncomputable def p52 : PlE Try.prog := ⟨52, _, fun _ h => Ty.pl52 h⟩
noncomputable def p53 : PlE Try.prog := ⟨53, _, fun _ h => Ty.pl53 h⟩
noncomputable def p62 : PlE Try.prog := ⟨62, _, fun _ h => Ty.pl62 h⟩
noncomputable def p63 : PlE Try.prog := ⟨63, _, fun _ h => Ty.pl63 h⟩
noncomputable def s36 : FsE Try.prog := ⟨36, _, Ty.fs36⟩
noncomputable def s37 : FsE Try.prog := ⟨37, _, Ty.fs37⟩
noncomputable def s38 : FsE Try.prog := ⟨38, _, Ty.fs38⟩
noncomputable def s39 : FsE Try.prog := ⟨39, _, Ty.fs39⟩
noncomputable def s52 : FsE Try.prog := ⟨52, _, Ty.fs52⟩
noncomputable def s53 : FsE Try.prog := ⟨53, _, Ty.fs53⟩
noncomputable def g3 : FnE Try.prog := ⟨3, Try.f3, _, Try.func3, rfl, Ty.cal3⟩
noncomputable def g4 : FnE Try.prog := ⟨4, Try.f4, _, Try.func4, rfl, Ty.cal4⟩
noncomputable def g5 : FnE Try.prog := ⟨5, Try.f5, _, Try.func5, rfl, Ty.cal5⟩
noncomputable def g6 : FnE Try.prog := ⟨6, Try.f6, _, Try.func6, rfl, Ty.cal6⟩
noncomputable def g7 : FnE Try.prog := ⟨7, Try.f7, _, Try.func7, rfl, Ty.cal7⟩
noncomputable def g8 : FnE Try.prog := ⟨8, Try.f8, _, Try.func8, rfl, Ty.cal8⟩
noncomputable def g9 : FnE Try.prog := ⟨9, Try.f9, _, Try.func9, rfl, Ty.cal9⟩
noncomputable def g10 : FnE Try.prog := ⟨10, Try.f10, _, Try.func10, rfl, Ty.cal10⟩
noncomputable def g11 : FnE Try.prog := ⟨11, Try.f11, _, Try.func11, rfl, Ty.cal11⟩
noncomputable def g12 : FnE Try.prog := ⟨12, Try.f12, _, Try.func12, rfl, Ty.cal12⟩
noncomputable def g13 : FnE Try.prog := ⟨13, Try.f13, _, Try.func13, rfl, Ty.cal13⟩
noncomputable def g14 : FnE Try.prog := ⟨14, Try.f14, _, Try.func14, rfl, Ty.cal14⟩
noncomputable def g15 : FnE Try.prog := ⟨15, Try.f15, _, Try.func15, rfl, Ty.cal15⟩
noncomputable def g16 : FnE Try.prog := ⟨16, Try.f16, _, Try.func16, rfl, Ty.cal16⟩
noncomputable def g17 : FnE Try.prog := ⟨17, Try.f17, _, Try.func17, rfl, Ty.cal17⟩
noncomputable def g18 : FnE Try.prog := ⟨18, Try.f18, _, Try.func18, rfl, Ty.cal18⟩
noncomputable def g19 : FnE Try.prog := ⟨19, Try.f19, _, Try.func19, rfl, Ty.cal19⟩
noncomputable def g20 : FnE Try.prog := ⟨20, Try.f20, _, Try.func20, rfl, Ty.cal20⟩
noncomputable def g21 : FnE Try.prog := ⟨21, Try.f21, _, Try.func21, rfl, Ty.cal21⟩
noncomputable def g22 : FnE Try.prog := ⟨22, Try.f22, _, Try.func22, rfl, Ty.cal22⟩
noncomputable def g23 : FnE Try.prog := ⟨23, Try.f23, _, Try.func23, rfl, Ty.cal23⟩
noncomputable def g24 : FnE Try.prog := ⟨24, Try.f24, _, Try.func24, rfl, Ty.cal24⟩
noncomputable def g25 : FnE Try.prog := ⟨25, Try.f25, _, Try.func25, rfl, Ty.cal25⟩
noncomputable def g26 : FnE Try.prog := ⟨26, Try.f26, _, Try.func26, rfl, Ty.cal26⟩
noncomputable def g27 : FnE Try.prog := ⟨27, Try.f27, _, Try.func27, rfl, Ty.cal27⟩
noncomputable def g28 : FnE Try.prog := ⟨28, Try.f28, _, Try.func28, rfl, Ty.cal28⟩
noncomputable def g29 : FnE Try.prog := ⟨29, Try.f29, _, Try.func29, rfl, Ty.cal29⟩
noncomputable def g30 : FnE Try.prog := ⟨30, Try.f30, _, Try.func30, rfl, Ty.cal30⟩
noncomputable def g31 : FnE Try.prog := ⟨31, Try.f31, _, Try.func31, rfl, Ty.cal31⟩
noncomputable def g32 : FnE Try.prog := ⟨32, Try.f32, _, Try.func32, rfl, Ty.cal32⟩
noncomputable def g33 : FnE Try.prog := ⟨33, Try.f33, _, Try.func33, rfl, Ty.cal33⟩
noncomputable def g34 : FnE Try.prog := ⟨34, Try.f34, _, Try.func34, rfl, Ty.cal34⟩
noncomputable def g35 : FnE Try.prog := ⟨35, Try.f35, _, Try.func35, rfl, Ty.cal35⟩
noncomputable def g36 : FnE Try.prog := ⟨36, Try.f36, _, Try.func36, rfl, Ty.cal36⟩
noncomputable def g37 : FnE Try.prog := ⟨37, Try.f37, _, Try.func37, rfl, Ty.cal37⟩
noncomputable def g38 : FnE Try.prog := ⟨38, Try.f38, _, Try.func38, rfl, Ty.cal38⟩
noncomputable def g39 : FnE Try.prog := ⟨39, Try.f39, _, Try.func39, rfl, Ty.cal39⟩
noncomputable def g40 : FnE Try.prog := ⟨40, Try.f40, _, Try.func40, rfl, Ty.cal40⟩
noncomputable def g41 : FnE Try.prog := ⟨41, Try.f41, _, Try.func41, rfl, Ty.cal41⟩
noncomputable def g42 : FnE Try.prog := ⟨42, Try.f42, _, Try.func42, rfl, Ty.cal42⟩
noncomputable def g43 : FnE Try.prog := ⟨43, Try.f43, _, Try.func43, rfl, Ty.cal43⟩
noncomputable def g44 : FnE Try.prog := ⟨44, Try.f44, _, Try.func44, rfl, Ty.cal44⟩
noncomputable def g45 : FnE Try.prog := ⟨45, Try.f45, _, Try.func45, rfl, Ty.cal45⟩
noncomputable def g46 : FnE Try.prog := ⟨46, Try.f46, _, Try.func46, rfl, Ty.cal46⟩
noncomputable def g47 : FnE Try.prog := ⟨47, Try.f47, _, Try.func47, rfl, Ty.cal47⟩
noncomputable def g48 : FnE Try.prog := ⟨48, Try.f48, _, Try.func48, rfl, Ty.cal48⟩
noncomputable def g49 : FnE Try.prog := ⟨49, Try.f49, _, Try.func49, rfl, Ty.cal49⟩
noncomputable def g50 : FnE Try.prog := ⟨50, Try.f50, _, Try.func50, rfl, Ty.cal50⟩
noncomputable def g51 : FnE Try.prog := ⟨51, Try.f51, _, Try.func51, rfl, Ty.cal51⟩
noncomputable def g52 : FnE Try.prog := ⟨52, Try.f52, _, Try.func52, rfl, Ty.cal52⟩
noncomputable def g53 : FnE Try.prog := ⟨53, Try.f53, _, Try.func53, rfl, Ty.cal53⟩
noncomputable def g54 : FnE Try.prog := ⟨54, Try.f54, _, Try.func54, rfl, Ty.cal54⟩
noncomputable def g55 : FnE Try.prog := ⟨55, Try.f55, _, Try.func55, rfl, Ty.cal55⟩
noncomputable def g56 : FnE Try.prog := ⟨56, Try.f56, _, Try.func56, rfl, Ty.cal56⟩
noncomputable def g57 : FnE Try.prog := ⟨57, Try.f57, _, Try.func57, rfl, Ty.cal57⟩
noncomputable def g58 : FnE Try.prog := ⟨58, Try.f58, _, Try.func58, rfl, Ty.cal58⟩
noncomputable def tyT : Tr (TE Try.prog) := (.node none (.node (some y1) (.node (some y3) (.node (some y7) (.node (some y15) (.node (some y31) (.node (some y63) .nil .nil) (.node (some y95) .nil .nil)) (.node (some y47) (.node (some y79) .nil .nil) .nil)) (.node (some y23) (.node (some y39) (.node (some y71) .nil .nil) (.node (some y103) .nil .nil)) (.node (some y55) (.node (some y87) .nil .nil) .nil))) (.node (some y11) (.node (some y19) (.node (some y35) (.node (some y67) .nil .nil) (.node (some y99) .nil .nil)) (.node (some y51) (.node (some y83) .nil .nil) .nil)) (.node (some y27) (.node (some y43) (.node (some y75) .nil .nil) .nil) (.node (some y59) (.node (some y91) .nil .nil) .nil)))) (.node (some y5) (.node (some y9) (.node (some y17) (.node (some y33) (.node (some y65) .nil .nil) (.node (some y97) .nil .nil)) (.node (some y49) .nil .nil)) (.node (some y25) (.node (some y41) (.node (some y73) .nil .nil) .nil) (.node (some y57) (.node (some y89) .nil .nil) .nil))) (.node (some y13) (.node (some y21) (.node (some y37) (.node (some y69) .nil .nil) (.node (some y101) .nil .nil)) (.node (some y53) (.node (some y85) .nil .nil) .nil)) (.node (some y29) (.node none (.node (some y77) .nil .nil) .nil) (.node (some y61) (.node (some y93) .nil .nil) .nil))))) (.node (some y2) (.node (some y4) (.node (some y8) (.node (some y16) (.node (some y32) (.node (some y64) .nil .nil) (.node (some y96) .nil .nil)) (.node (some y48) (.node (some y80) .nil .nil) .nil)) (.node (some y24) (.node (some y40) (.node (some y72) .nil .nil) .nil) (.node (some y56) (.node (some y88) .nil .nil) .nil))) (.node (some y12) (.node (some y20) (.node (some y36) (.node (some y68) .nil .nil) (.node (some y100) .nil .nil)) (.node (some y52) (.node (some y84) .nil .nil) .nil)) (.node (some y28) (.node (some y44) (.node (some y76) .nil .nil) .nil) (.node (some y60) (.node (some y92) .nil .nil) .nil)))) (.node (some y6) (.node (some y10) (.node (some y18) (.node (some y34) .nil (.node (some y98) .nil .nil)) (.node (some y50) (.node (some y82) .nil .nil) .nil)) (.node none (.node (some y42) (.node (some y74) .nil .nil) .nil) (.node (some y58) (.node (some y90) .nil .nil) .nil))) (.node (some y14) (.node (some y22) (.node (some y38) (.node (some y70) .nil .nil) (.node (some y102) .nil .nil)) (.node (some y54) (.node (some y86) .nil .nil) .nil)) (.node none (.node (some y46) .nil .nil) (.node (some y62) (.node (some y94) .nil .nil) .nil))))))
noncomputable def plT : Tr (PlE Try.prog) := (.node none (.node none (.node none (.node none (.node none (.node none (.node (some p63) .nil .nil) .nil) .nil) (.node none (.node (some p39) .nil .nil) .nil)) (.node none (.node (some p19) .nil .nil) .nil)) (.node none .nil (.node none (.node none (.node (some p37) .nil .nil) (.node (some p53) .nil .nil)) .nil))) (.node none (.node none .nil (.node none (.node none (.node (some p36) .nil .nil) (.node (some p52) .nil .nil)) .nil)) (.node none .nil (.node none (.node none (.node (some p38) .nil .nil) .nil) (.node none .nil (.node (some p62) .nil .nil))))))
noncomputable def fsT : Tr (FsE Try.prog) := (.node none (.node none (.node none (.node none .nil (.node none (.node (some s39) .nil .nil) .nil)) .nil) (.node none .nil (.node none (.node none (.node (some s37) .nil .nil) (.node (some s53) .nil .nil)) .nil))) (.node none (.node none .nil (.node none (.node none (.node (some s36) .nil .nil) (.node (some s52) .nil .nil)) .nil)) (.node none .nil (.node none (.node none (.node (some s38) .nil .nil) .nil) .nil))))
noncomputable def fnT : Tr (FnE Try.prog) := (.node none (.node none (.node (some g3) (.node (some g7) (.node (some g15) (.node (some g31) .nil .nil) (.node (some g47) .nil .nil)) (.node (some g23) (.node (some g39) .nil .nil) (.node (some g55) .nil .nil))) (.node (some g11) (.node (some g19) (.node (some g35) .nil .nil) (.node (some g51) .nil .nil)) (.node (some g27) (.node (some g43) .nil .nil) .nil))) (.node (some g5) (.node (some g9) (.node (some g17) (.node (some g33) .nil .nil) (.node (some g49) .nil .nil)) (.node (some g25) (.node (some g41) .nil .nil) (.node (some g57) .nil .nil))) (.node (some g13) (.node (some g21) (.node (some g37) .nil .nil) (.node (some g53) .nil .nil)) (.node (some g29) (.node (some g45) .nil .nil) .nil)))) (.node none (.node (some g4) (.node (some g8) (.node (some g16) (.node (some g32) .nil .nil) (.node (some g48) .nil .nil)) (.node (some g24) (.node (some g40) .nil .nil) (.node (some g56) .nil .nil))) (.node (some g12) (.node (some g20) (.node (some g36) .nil .nil) (.node (some g52) .nil .nil)) (.node (some g28) (.node (some g44) .nil .nil) .nil))) (.node (some g6) (.node (some g10) (.node (some g18) (.node (some g34) .nil .nil) (.node (some g50) .nil .nil)) (.node (some g26) (.node (some g42) .nil .nil) (.node (some g58) .nil .nil))) (.node (some g14) (.node (some g22) (.node (some g38) .nil .nil) (.node (some g54) .nil .nil)) (.node (some g30) (.node (some g46) .nil .nil) .nil)))))
theorem mix : Try.prog.follows .mixedOrders = true := by kernel_rfl
noncomputable def tab : Tab Try.prog := ⟨tyT, plT, fsT, fnT, mix⟩
end Go.Proofs.Ytbdibcpenihpdaa.EvT
