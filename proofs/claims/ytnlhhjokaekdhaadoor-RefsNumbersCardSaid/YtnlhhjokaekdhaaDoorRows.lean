/-
  NARROWER THAN 'FOR EVERY INPUT', by the rows' own cells (each row's printed sentence says how): DigestSum: laid · DigestEdges: laid · DigestLength: laid · LongsSum: laid · LongsEdges: laid · LongsLength: laid · RefsTell: laid · RefsNames: laid · RefsNumbers: laid · RefsPlace: laid.
  DERIVED. THE GIVEN ROWS OF THIS SEAT. 10 by the template 'for every input the law returns true; each argument reads behind the call as it read before'; 0 by the template 'total and deterministic' (their statements: YtnlhhjokaekdhaaDoorTotals.lean).
  GIVEN WITH THE SEED: the statements are not yours to turn. If you find one false, say at which input.
  Laid BY PROGRAM, IN A SANDBOX (cutbox-rows.mjs): the forced cells as the released guide's own fill.sh prints them over the translation 6e8629f5b9931e63… (all of the seat's roots in one cut). By AI agents, Wed Nov 11 2026. No macro, syntax, notation, axiom, sorry.
-/
import Derived.Test.YtnlhhjokaekdhaaDoorChecked
import GoSem.Claim
import GoSem.ClaimJoined
import GoSem.ClaimMapViews
import Derived.JoinedTies
import Derived.KernelRfl
namespace Go.Proofs.YtnlhhjokaekdhaaDoor
/- THE CELL 'sum', in the pinned program and in every row, IS THE sha256 OF THE DUMP (.gsa) THAT YtnlhhjokaekdhaaDoorProg.lean LOADS. Nothing in Lean hashes anything: it is a label: what it is worth is what the hold of that sum in a sandbox is worth. -/
noncomputable def Tryd.pinned : Pinned := { name := "ytnlhhjokaekdhaadoor", sum := "6e8629f5b9931e6313b4fea3a705313bdfa75b20c95ddcaa71a43e7fa0274931", checked := Tryd.checked }
namespace Rows
def none {H : Type} : Left H := { results := [], args := [] }

/- WHAT THE LISTED PACKAGE-LEVEL VARIABLES READ AS WHEN THE CALL BEGINS. Each datum BY PROGRAM (the guide's laid-datum.mjs) off the statement by which the dump's own 'gosem.cut.vars' lays the variable. In a bare row this is a premise. The card (YtnlhhjokaekdhaaDoorCards.lean) ties it to the program's text. -/
def laid_lazaret_digest_constants {H : Type} : DataW H := .agg [.lit (.int .u32 1116352408), .lit (.int .u32 1899447441), .lit (.int .u32 3049323471), .lit (.int .u32 3921009573), .lit (.int .u32 961987163), .lit (.int .u32 1508970993), .lit (.int .u32 2453635748), .lit (.int .u32 2870763221), .lit (.int .u32 3624381080), .lit (.int .u32 310598401), .lit (.int .u32 607225278), .lit (.int .u32 1426881987), .lit (.int .u32 1925078388), .lit (.int .u32 2162078206), .lit (.int .u32 2614888103), .lit (.int .u32 3248222580), .lit (.int .u32 3835390401), .lit (.int .u32 4022224774), .lit (.int .u32 264347078), .lit (.int .u32 604807628), .lit (.int .u32 770255983), .lit (.int .u32 1249150122), .lit (.int .u32 1555081692), .lit (.int .u32 1996064986), .lit (.int .u32 2554220882), .lit (.int .u32 2821834349), .lit (.int .u32 2952996808), .lit (.int .u32 3210313671), .lit (.int .u32 3336571891), .lit (.int .u32 3584528711), .lit (.int .u32 113926993), .lit (.int .u32 338241895), .lit (.int .u32 666307205), .lit (.int .u32 773529912), .lit (.int .u32 1294757372), .lit (.int .u32 1396182291), .lit (.int .u32 1695183700), .lit (.int .u32 1986661051), .lit (.int .u32 2177026350), .lit (.int .u32 2456956037), .lit (.int .u32 2730485921), .lit (.int .u32 2820302411), .lit (.int .u32 3259730800), .lit (.int .u32 3345764771), .lit (.int .u32 3516065817), .lit (.int .u32 3600352804), .lit (.int .u32 4094571909), .lit (.int .u32 275423344), .lit (.int .u32 430227734), .lit (.int .u32 506948616), .lit (.int .u32 659060556), .lit (.int .u32 883997877), .lit (.int .u32 958139571), .lit (.int .u32 1322822218), .lit (.int .u32 1537002063), .lit (.int .u32 1747873779), .lit (.int .u32 1955562222), .lit (.int .u32 2024104815), .lit (.int .u32 2227730452), .lit (.int .u32 2361852424), .lit (.int .u32 2428436474), .lit (.int .u32 2756734187), .lit (.int .u32 3204031479), .lit (.int .u32 3329325298)]
def laid_lazaret_digest_first {H : Type} : DataW H := .agg [.lit (.int .u32 1779033703), .lit (.int .u32 3144134277), .lit (.int .u32 1013904242), .lit (.int .u32 2773480762), .lit (.int .u32 1359893119), .lit (.int .u32 2600822924), .lit (.int .u32 528734635), .lit (.int .u32 1541459225)]
def laid_lazaret_longs_constants {H : Type} : DataW H := .agg [.lit (.int .u64 4794697086780616226), .lit (.int .u64 8158064640168781261), .lit (.int .u64 13096744586834688815), .lit (.int .u64 16840607885511220156), .lit (.int .u64 4131703408338449720), .lit (.int .u64 6480981068601479193), .lit (.int .u64 10538285296894168987), .lit (.int .u64 12329834152419229976), .lit (.int .u64 15566598209576043074), .lit (.int .u64 1334009975649890238), .lit (.int .u64 2608012711638119052), .lit (.int .u64 6128411473006802146), .lit (.int .u64 8268148722764581231), .lit (.int .u64 9286055187155687089), .lit (.int .u64 11230858885718282805), .lit (.int .u64 13951009754708518548), .lit (.int .u64 16472876342353939154), .lit (.int .u64 17275323862435702243), .lit (.int .u64 1135362057144423861), .lit (.int .u64 2597628984639134821), .lit (.int .u64 3308224258029322869), .lit (.int .u64 5365058923640841347), .lit (.int .u64 6679025012923562964), .lit (.int .u64 8573033837759648693), .lit (.int .u64 10970295158949994411), .lit (.int .u64 12119686244451234320), .lit (.int .u64 12683024718118986047), .lit (.int .u64 13788192230050041572), .lit (.int .u64 14330467153632333762), .lit (.int .u64 15395433587784984357), .lit (.int .u64 489312712824947311), .lit (.int .u64 1452737877330783856), .lit (.int .u64 2861767655752347644), .lit (.int .u64 3322285676063803686), .lit (.int .u64 5560940570517711597), .lit (.int .u64 5996557281743188959), .lit (.int .u64 7280758554555802590), .lit (.int .u64 8532644243296465576), .lit (.int .u64 9350256976987008742), .lit (.int .u64 10552545826968843579), .lit (.int .u64 11727347734174303076), .lit (.int .u64 12113106623233404929), .lit (.int .u64 14000437183269869457), .lit (.int .u64 14369950271660146224), .lit (.int .u64 15101387698204529176), .lit (.int .u64 15463397548674623760), .lit (.int .u64 17586052441742319658), .lit (.int .u64 1182934255886127544), .lit (.int .u64 1847814050463011016), .lit (.int .u64 2177327727835720531), .lit (.int .u64 2830643537854262169), .lit (.int .u64 3796741975233480872), .lit (.int .u64 4115178125766777443), .lit (.int .u64 5681478168544905931), .lit (.int .u64 6601373596472566643), .lit (.int .u64 7507060721942968483), .lit (.int .u64 8399075790359081724), .lit (.int .u64 8693463985226723168), .lit (.int .u64 9568029438360202098), .lit (.int .u64 10144078919501101548), .lit (.int .u64 10430055236837252648), .lit (.int .u64 11840083180663258601), .lit (.int .u64 13761210420658862357), .lit (.int .u64 14299343276471374635), .lit (.int .u64 14566680578165727644), .lit (.int .u64 15097957966210449927), .lit (.int .u64 16922976911328602910), .lit (.int .u64 17689382322260857208), .lit (.int .u64 500013540394364858), .lit (.int .u64 748580250866718886), .lit (.int .u64 1242879168328830382), .lit (.int .u64 1977374033974150939), .lit (.int .u64 2944078676154940804), .lit (.int .u64 3659926193048069267), .lit (.int .u64 4368137639120453308), .lit (.int .u64 4836135668995329356), .lit (.int .u64 5532061633213252278), .lit (.int .u64 6448918945643986474), .lit (.int .u64 6902733635092675308), .lit (.int .u64 7801388544844847127)]
def laid_lazaret_longs_first384 {H : Type} : DataW H := .agg [.lit (.int .u64 14680500436340154072), .lit (.int .u64 7105036623409894663), .lit (.int .u64 10473403895298186519), .lit (.int .u64 1526699215303891257), .lit (.int .u64 7436329637833083697), .lit (.int .u64 10282925794625328401), .lit (.int .u64 15784041429090275239), .lit (.int .u64 5167115440072839076)]
def laid_lazaret_longs_first512 {H : Type} : DataW H := .agg [.lit (.int .u64 7640891576956012808), .lit (.int .u64 13503953896175478587), .lit (.int .u64 4354685564936845355), .lit (.int .u64 11912009170470909681), .lit (.int .u64 5840696475078001361), .lit (.int .u64 11170449401992604703), .lit (.int .u64 2270897969802886507), .lit (.int .u64 6620516959819538809)]
def laid_lazaret_refs_windows {H : Type} : DataW H := .agg [.lit (.int .i32 8364), .lit (.int .i32 0), .lit (.int .i32 8218), .lit (.int .i32 402), .lit (.int .i32 8222), .lit (.int .i32 8230), .lit (.int .i32 8224), .lit (.int .i32 8225), .lit (.int .i32 710), .lit (.int .i32 8240), .lit (.int .i32 352), .lit (.int .i32 8249), .lit (.int .i32 338), .lit (.int .i32 0), .lit (.int .i32 381), .lit (.int .i32 0), .lit (.int .i32 0), .lit (.int .i32 8216), .lit (.int .i32 8217), .lit (.int .i32 8220), .lit (.int .i32 8221), .lit (.int .i32 8226), .lit (.int .i32 8211), .lit (.int .i32 8212), .lit (.int .i32 732), .lit (.int .i32 8482), .lit (.int .i32 353), .lit (.int .i32 8250), .lit (.int .i32 339), .lit (.int .i32 0), .lit (.int .i32 382), .lit (.int .i32 376)]
def laid_math_bits_deBruijn32tab {H : Type} : DataW H := .agg [.lit (.int .u8 0), .lit (.int .u8 1), .lit (.int .u8 28), .lit (.int .u8 2), .lit (.int .u8 29), .lit (.int .u8 14), .lit (.int .u8 24), .lit (.int .u8 3), .lit (.int .u8 30), .lit (.int .u8 22), .lit (.int .u8 20), .lit (.int .u8 15), .lit (.int .u8 25), .lit (.int .u8 17), .lit (.int .u8 4), .lit (.int .u8 8), .lit (.int .u8 31), .lit (.int .u8 27), .lit (.int .u8 13), .lit (.int .u8 23), .lit (.int .u8 21), .lit (.int .u8 19), .lit (.int .u8 16), .lit (.int .u8 7), .lit (.int .u8 26), .lit (.int .u8 12), .lit (.int .u8 18), .lit (.int .u8 6), .lit (.int .u8 11), .lit (.int .u8 5), .lit (.int .u8 10), .lit (.int .u8 9)]
def laid_math_bits_deBruijn64tab {H : Type} : DataW H := .agg [.lit (.int .u8 0), .lit (.int .u8 1), .lit (.int .u8 56), .lit (.int .u8 2), .lit (.int .u8 57), .lit (.int .u8 49), .lit (.int .u8 28), .lit (.int .u8 3), .lit (.int .u8 61), .lit (.int .u8 58), .lit (.int .u8 42), .lit (.int .u8 50), .lit (.int .u8 38), .lit (.int .u8 29), .lit (.int .u8 17), .lit (.int .u8 4), .lit (.int .u8 62), .lit (.int .u8 47), .lit (.int .u8 59), .lit (.int .u8 36), .lit (.int .u8 45), .lit (.int .u8 43), .lit (.int .u8 51), .lit (.int .u8 22), .lit (.int .u8 53), .lit (.int .u8 39), .lit (.int .u8 33), .lit (.int .u8 30), .lit (.int .u8 24), .lit (.int .u8 18), .lit (.int .u8 12), .lit (.int .u8 5), .lit (.int .u8 63), .lit (.int .u8 55), .lit (.int .u8 48), .lit (.int .u8 27), .lit (.int .u8 60), .lit (.int .u8 41), .lit (.int .u8 37), .lit (.int .u8 16), .lit (.int .u8 46), .lit (.int .u8 35), .lit (.int .u8 44), .lit (.int .u8 21), .lit (.int .u8 52), .lit (.int .u8 32), .lit (.int .u8 23), .lit (.int .u8 11), .lit (.int .u8 54), .lit (.int .u8 26), .lit (.int .u8 40), .lit (.int .u8 15), .lit (.int .u8 34), .lit (.int .u8 20), .lit (.int .u8 31), .lit (.int .u8 10), .lit (.int .u8 25), .lit (.int .u8 14), .lit (.int .u8 19), .lit (.int .u8 9), .lit (.int .u8 13), .lit (.int .u8 8), .lit (.int .u8 7), .lit (.int .u8 6)]
def laid_internal_strconv_uint64pow10 {H : Type} : DataW H := .agg [.lit (.int .u64 1), .lit (.int .u64 10), .lit (.int .u64 100), .lit (.int .u64 1000), .lit (.int .u64 10000), .lit (.int .u64 100000), .lit (.int .u64 1000000), .lit (.int .u64 10000000), .lit (.int .u64 100000000), .lit (.int .u64 1000000000), .lit (.int .u64 10000000000), .lit (.int .u64 100000000000), .lit (.int .u64 1000000000000), .lit (.int .u64 10000000000000), .lit (.int .u64 100000000000000), .lit (.int .u64 1000000000000000), .lit (.int .u64 10000000000000000), .lit (.int .u64 100000000000000000), .lit (.int .u64 1000000000000000000), .lit (.int .u64 10000000000000000000)]

/-- 'lazaretlaw04.DigestSum': WHATEVER THE INPUT: true; the input reads as it did. -/
def digestSumSpec : ChangeSpec := { name := "digestSum", fn := fun _ => fun
  | [d] => { results := [.lit (.bool true)], args := [d] }
  | _ => none }
def digestSumRow : OpenClaim := { program := "ytnlhhjokaekdhaadoor", sum := "6e8629f5b9931e6313b4fea3a705313bdfa75b20c95ddcaa71a43e7fa0274931", func := "lazaret/lazaretlaw04.DigestSum", spec := "digestSum", inPlace := ["internal/abi.NoEscape"], named := ["lazaret/digest.first", "lazaret/digest.constants"], apart := false, laid := [("lazaret/digest.constants", laid_lazaret_digest_constants), ("lazaret/digest.first", laid_lazaret_digest_first)] }
def DigestSumSaid : Prop := digestSumRow.holds Tryd.pinned (OpenSpec.ofChange digestSumSpec)

/-- ITS FALSE NEIGHBOUR: 'it returns false'. Refute it at one input. -/
def digestSumWrong : ChangeSpec := { name := "digestSum", fn := fun _ => fun
  | [d] => { results := [.lit (.bool false)], args := [d] }
  | _ => none }
def DigestSumWrongFalsely : Prop := digestSumRow.holds Tryd.pinned (OpenSpec.ofChange digestSumWrong)

/-- 'lazaretlaw04.DigestEdges': WHATEVER THE INPUT: true; the input reads as it did. -/
def digestEdgesSpec : ChangeSpec := { name := "digestEdges", fn := fun _ => fun
  | [d1, d2, d3] => { results := [.lit (.bool true)], args := [d1, d2, d3] }
  | _ => none }
def digestEdgesRow : OpenClaim := { program := "ytnlhhjokaekdhaadoor", sum := "6e8629f5b9931e6313b4fea3a705313bdfa75b20c95ddcaa71a43e7fa0274931", func := "lazaret/lazaretlaw04.DigestEdges", spec := "digestEdges", inPlace := ["internal/abi.NoEscape"], named := ["lazaret/digest.first", "lazaret/digest.constants"], apart := false, laid := [("lazaret/digest.constants", laid_lazaret_digest_constants), ("lazaret/digest.first", laid_lazaret_digest_first)] }
def DigestEdgesSaid : Prop := digestEdgesRow.holds Tryd.pinned (OpenSpec.ofChange digestEdgesSpec)

/-- ITS FALSE NEIGHBOUR: 'it returns false'. Refute it at one input. -/
def digestEdgesWrong : ChangeSpec := { name := "digestEdges", fn := fun _ => fun
  | [d1, d2, d3] => { results := [.lit (.bool false)], args := [d1, d2, d3] }
  | _ => none }
def DigestEdgesWrongFalsely : Prop := digestEdgesRow.holds Tryd.pinned (OpenSpec.ofChange digestEdgesWrong)

/-- 'lazaretlaw04.DigestLength': WHATEVER THE INPUT: true; the input reads as it did. -/
def digestLengthSpec : ChangeSpec := { name := "digestLength", fn := fun _ => fun
  | [d] => { results := [.lit (.bool true)], args := [d] }
  | _ => none }
def digestLengthRow : OpenClaim := { program := "ytnlhhjokaekdhaadoor", sum := "6e8629f5b9931e6313b4fea3a705313bdfa75b20c95ddcaa71a43e7fa0274931", func := "lazaret/lazaretlaw04.DigestLength", spec := "digestLength", inPlace := ["internal/abi.NoEscape"], named := ["lazaret/digest.first", "lazaret/digest.constants"], apart := false, laid := [("lazaret/digest.constants", laid_lazaret_digest_constants), ("lazaret/digest.first", laid_lazaret_digest_first)] }
def DigestLengthSaid : Prop := digestLengthRow.holds Tryd.pinned (OpenSpec.ofChange digestLengthSpec)

/-- ITS FALSE NEIGHBOUR: 'it returns false'. Refute it at one input. -/
def digestLengthWrong : ChangeSpec := { name := "digestLength", fn := fun _ => fun
  | [d] => { results := [.lit (.bool false)], args := [d] }
  | _ => none }
def DigestLengthWrongFalsely : Prop := digestLengthRow.holds Tryd.pinned (OpenSpec.ofChange digestLengthWrong)

/-- 'lazaretlaw05.LongsSum': WHATEVER THE INPUT: true; the input reads as it did. -/
def longsSumSpec : ChangeSpec := { name := "longsSum", fn := fun _ => fun
  | [d] => { results := [.lit (.bool true)], args := [d] }
  | _ => none }
def longsSumRow : OpenClaim := { program := "ytnlhhjokaekdhaadoor", sum := "6e8629f5b9931e6313b4fea3a705313bdfa75b20c95ddcaa71a43e7fa0274931", func := "lazaret/lazaretlaw05.LongsSum", spec := "longsSum", inPlace := ["internal/abi.NoEscape"], named := ["lazaret/longs.first384", "lazaret/longs.constants", "lazaret/longs.first512"], apart := false, laid := [("lazaret/longs.constants", laid_lazaret_longs_constants), ("lazaret/longs.first384", laid_lazaret_longs_first384), ("lazaret/longs.first512", laid_lazaret_longs_first512)] }
def LongsSumSaid : Prop := longsSumRow.holds Tryd.pinned (OpenSpec.ofChange longsSumSpec)

/-- ITS FALSE NEIGHBOUR: 'it returns false'. Refute it at one input. -/
def longsSumWrong : ChangeSpec := { name := "longsSum", fn := fun _ => fun
  | [d] => { results := [.lit (.bool false)], args := [d] }
  | _ => none }
def LongsSumWrongFalsely : Prop := longsSumRow.holds Tryd.pinned (OpenSpec.ofChange longsSumWrong)

/-- 'lazaretlaw05.LongsEdges': WHATEVER THE INPUT: true; the input reads as it did. -/
def longsEdgesSpec : ChangeSpec := { name := "longsEdges", fn := fun _ => fun
  | [d1, d2, d3] => { results := [.lit (.bool true)], args := [d1, d2, d3] }
  | _ => none }
def longsEdgesRow : OpenClaim := { program := "ytnlhhjokaekdhaadoor", sum := "6e8629f5b9931e6313b4fea3a705313bdfa75b20c95ddcaa71a43e7fa0274931", func := "lazaret/lazaretlaw05.LongsEdges", spec := "longsEdges", inPlace := ["internal/abi.NoEscape"], named := ["lazaret/longs.first512", "lazaret/longs.constants", "lazaret/longs.first384"], apart := false, laid := [("lazaret/longs.constants", laid_lazaret_longs_constants), ("lazaret/longs.first384", laid_lazaret_longs_first384), ("lazaret/longs.first512", laid_lazaret_longs_first512)] }
def LongsEdgesSaid : Prop := longsEdgesRow.holds Tryd.pinned (OpenSpec.ofChange longsEdgesSpec)

/-- ITS FALSE NEIGHBOUR: 'it returns false'. Refute it at one input. -/
def longsEdgesWrong : ChangeSpec := { name := "longsEdges", fn := fun _ => fun
  | [d1, d2, d3] => { results := [.lit (.bool false)], args := [d1, d2, d3] }
  | _ => none }
def LongsEdgesWrongFalsely : Prop := longsEdgesRow.holds Tryd.pinned (OpenSpec.ofChange longsEdgesWrong)

/-- 'lazaretlaw05.LongsLength': WHATEVER THE INPUT: true; the input reads as it did. -/
def longsLengthSpec : ChangeSpec := { name := "longsLength", fn := fun _ => fun
  | [d] => { results := [.lit (.bool true)], args := [d] }
  | _ => none }
def longsLengthRow : OpenClaim := { program := "ytnlhhjokaekdhaadoor", sum := "6e8629f5b9931e6313b4fea3a705313bdfa75b20c95ddcaa71a43e7fa0274931", func := "lazaret/lazaretlaw05.LongsLength", spec := "longsLength", inPlace := ["internal/abi.NoEscape"], named := ["lazaret/longs.first384", "lazaret/longs.constants", "lazaret/longs.first512"], apart := false, laid := [("lazaret/longs.constants", laid_lazaret_longs_constants), ("lazaret/longs.first384", laid_lazaret_longs_first384), ("lazaret/longs.first512", laid_lazaret_longs_first512)] }
def LongsLengthSaid : Prop := longsLengthRow.holds Tryd.pinned (OpenSpec.ofChange longsLengthSpec)

/-- ITS FALSE NEIGHBOUR: 'it returns false'. Refute it at one input. -/
def longsLengthWrong : ChangeSpec := { name := "longsLength", fn := fun _ => fun
  | [d] => { results := [.lit (.bool false)], args := [d] }
  | _ => none }
def LongsLengthWrongFalsely : Prop := longsLengthRow.holds Tryd.pinned (OpenSpec.ofChange longsLengthWrong)

/-- 'lazaretlaw09.RefsTell': WHATEVER THE INPUT: true; the input reads as it did. -/
def refsTellSpec : ChangeSpec := { name := "refsTell", fn := fun _ => fun
  | [d1, d2] => { results := [.lit (.bool true)], args := [d1, d2] }
  | _ => none }
def refsTellRow : OpenClaim := { program := "ytnlhhjokaekdhaadoor", sum := "6e8629f5b9931e6313b4fea3a705313bdfa75b20c95ddcaa71a43e7fa0274931", func := "lazaret/lazaretlaw09.RefsTell", spec := "refsTell", named := ["lazaret/refs.windows"], apart := false, laid := [("lazaret/refs.windows", laid_lazaret_refs_windows)] }
def RefsTellSaid : Prop := refsTellRow.holds Tryd.pinned (OpenSpec.ofChange refsTellSpec)

/-- ITS FALSE NEIGHBOUR: 'it returns false'. Refute it at one input. -/
def refsTellWrong : ChangeSpec := { name := "refsTell", fn := fun _ => fun
  | [d1, d2] => { results := [.lit (.bool false)], args := [d1, d2] }
  | _ => none }
def RefsTellWrongFalsely : Prop := refsTellRow.holds Tryd.pinned (OpenSpec.ofChange refsTellWrong)

/-- 'lazaretlaw09.RefsNames': WHATEVER THE INPUT: true; the input reads as it did. -/
def refsNamesSpec : ChangeSpec := { name := "refsNames", fn := fun _ => fun
  | [d1, d2, d3] => { results := [.lit (.bool true)], args := [d1, d2, d3] }
  | _ => none }
def refsNamesRow : OpenClaim := { program := "ytnlhhjokaekdhaadoor", sum := "6e8629f5b9931e6313b4fea3a705313bdfa75b20c95ddcaa71a43e7fa0274931", func := "lazaret/lazaretlaw09.RefsNames", spec := "refsNames", named := ["lazaret/refs.windows"], apart := false, laid := [("lazaret/refs.windows", laid_lazaret_refs_windows)] }
def RefsNamesSaid : Prop := refsNamesRow.holds Tryd.pinned (OpenSpec.ofChange refsNamesSpec)

/-- ITS FALSE NEIGHBOUR: 'it returns false'. Refute it at one input. -/
def refsNamesWrong : ChangeSpec := { name := "refsNames", fn := fun _ => fun
  | [d1, d2, d3] => { results := [.lit (.bool false)], args := [d1, d2, d3] }
  | _ => none }
def RefsNamesWrongFalsely : Prop := refsNamesRow.holds Tryd.pinned (OpenSpec.ofChange refsNamesWrong)

/-- 'lazaretlaw09.RefsNumbers': WHATEVER THE INPUT: true; the input reads as it did. -/
def refsNumbersSpec : ChangeSpec := { name := "refsNumbers", fn := fun _ => fun
  | [d1, d2, d3] => { results := [.lit (.bool true)], args := [d1, d2, d3] }
  | _ => none }
def refsNumbersRow : OpenClaim := { program := "ytnlhhjokaekdhaadoor", sum := "6e8629f5b9931e6313b4fea3a705313bdfa75b20c95ddcaa71a43e7fa0274931", func := "lazaret/lazaretlaw09.RefsNumbers", spec := "refsNumbers", named := ["lazaret/refs.windows", "internal/strconv.uint64pow10", "math/bits.deBruijn32tab", "math/bits.deBruijn64tab"], apart := false, laid := [("math/bits.deBruijn32tab", laid_math_bits_deBruijn32tab), ("math/bits.deBruijn64tab", laid_math_bits_deBruijn64tab), ("internal/strconv.uint64pow10", laid_internal_strconv_uint64pow10), ("lazaret/refs.windows", laid_lazaret_refs_windows)] }
def RefsNumbersSaid : Prop := refsNumbersRow.holds Tryd.pinned (OpenSpec.ofChange refsNumbersSpec)

/-- ITS FALSE NEIGHBOUR: 'it returns false'. Refute it at one input. -/
def refsNumbersWrong : ChangeSpec := { name := "refsNumbers", fn := fun _ => fun
  | [d1, d2, d3] => { results := [.lit (.bool false)], args := [d1, d2, d3] }
  | _ => none }
def RefsNumbersWrongFalsely : Prop := refsNumbersRow.holds Tryd.pinned (OpenSpec.ofChange refsNumbersWrong)

/-- 'lazaretlaw09.RefsPlace': WHATEVER THE INPUT: true; the input reads as it did. -/
def refsPlaceSpec : ChangeSpec := { name := "refsPlace", fn := fun _ => fun
  | [d1, d2, d3] => { results := [.lit (.bool true)], args := [d1, d2, d3] }
  | _ => none }
def refsPlaceRow : OpenClaim := { program := "ytnlhhjokaekdhaadoor", sum := "6e8629f5b9931e6313b4fea3a705313bdfa75b20c95ddcaa71a43e7fa0274931", func := "lazaret/lazaretlaw09.RefsPlace", spec := "refsPlace", named := ["lazaret/refs.windows"], apart := false, laid := [("lazaret/refs.windows", laid_lazaret_refs_windows)] }
def RefsPlaceSaid : Prop := refsPlaceRow.holds Tryd.pinned (OpenSpec.ofChange refsPlaceSpec)

/-- ITS FALSE NEIGHBOUR: 'it returns false'. Refute it at one input. -/
def refsPlaceWrong : ChangeSpec := { name := "refsPlace", fn := fun _ => fun
  | [d1, d2, d3] => { results := [.lit (.bool false)], args := [d1, d2, d3] }
  | _ => none }
def RefsPlaceWrongFalsely : Prop := refsPlaceRow.holds Tryd.pinned (OpenSpec.ofChange refsPlaceWrong)

/- THE SECOND FORM. 'bulk': how many values and letters a reading holds, each counted each time it is reached (what is shared counts as often as it is met; a slice's spare places count too). A statement '..UptoSaid' is the law's where the arguments, and the package variables that the reading takes, are together of bulk at most 1048576: NARROWER than '..Said'. Prove '..Said' where nothing that the law and all that it calls make is longer than what came in: it says more and counts as full. Else prove '..UptoSaid'. A law counts once. -/
mutual
def uptoBulk {H : Type} : DataW H → Nat
  | .lit (.string bytes) => bytes.length + 1
  | .lit _ => 1
  | .nil => 1
  | .ptr d => uptoBulk d + 1
  | .slice elems spare => uptoBulkAll elems + uptoBulkAll spare + 1
  | .agg parts => uptoBulkAll parts + 1
  | .iface _ d => uptoBulk d + 1
  | .map entries => uptoBulkEntries entries + 1
  | .held _ => 1
def uptoBulkAll {H : Type} : List (DataW H) → Nat
  | [] => 0
  | d :: r => uptoBulk d + uptoBulkAll r
def uptoBulkEntries {H : Type} : List (Lit × DataW H) → Nat
  | [] => 0
  | x :: r => uptoBulkEntry x + uptoBulkEntries r
def uptoBulkEntry {H : Type} : Lit × DataW H → Nat
  | (.string bytes, d) => bytes.length + uptoBulk d + 1
  | (_, d) => uptoBulk d + 1
 end
def uptoSmall : (H : Type) → List (DataW H) → Bool := fun _ ds => decide (uptoBulkAll ds ≤ 1048576)
def OpenSpec.upto (s : _root_.Go.ChangeSpec) : _root_.Go.OpenSpec := { _root_.Go.OpenSpec.ofChange s with cond := some uptoSmall }

/-- 'lazaretlaw04.DigestSum', WHERE WHAT IT READS IS OF BULK AT MOST 1048576: true; the input reads as it did. -/
def digestSumUptoRow : OpenClaim := { program := "ytnlhhjokaekdhaadoor", sum := "6e8629f5b9931e6313b4fea3a705313bdfa75b20c95ddcaa71a43e7fa0274931", func := "lazaret/lazaretlaw04.DigestSum", spec := "digestSum", inPlace := ["internal/abi.NoEscape"], named := ["lazaret/digest.first", "lazaret/digest.constants"], apart := false, laid := [("lazaret/digest.constants", laid_lazaret_digest_constants), ("lazaret/digest.first", laid_lazaret_digest_first)], narrowed := true }
def DigestSumUptoSaid : Prop := digestSumUptoRow.holds Tryd.pinned (OpenSpec.upto digestSumSpec)

/-- 'lazaretlaw04.DigestEdges', WHERE WHAT IT READS IS OF BULK AT MOST 1048576: true; the input reads as it did. -/
def digestEdgesUptoRow : OpenClaim := { program := "ytnlhhjokaekdhaadoor", sum := "6e8629f5b9931e6313b4fea3a705313bdfa75b20c95ddcaa71a43e7fa0274931", func := "lazaret/lazaretlaw04.DigestEdges", spec := "digestEdges", inPlace := ["internal/abi.NoEscape"], named := ["lazaret/digest.first", "lazaret/digest.constants"], apart := false, laid := [("lazaret/digest.constants", laid_lazaret_digest_constants), ("lazaret/digest.first", laid_lazaret_digest_first)], narrowed := true }
def DigestEdgesUptoSaid : Prop := digestEdgesUptoRow.holds Tryd.pinned (OpenSpec.upto digestEdgesSpec)

/-- 'lazaretlaw04.DigestLength', WHERE WHAT IT READS IS OF BULK AT MOST 1048576: true; the input reads as it did. -/
def digestLengthUptoRow : OpenClaim := { program := "ytnlhhjokaekdhaadoor", sum := "6e8629f5b9931e6313b4fea3a705313bdfa75b20c95ddcaa71a43e7fa0274931", func := "lazaret/lazaretlaw04.DigestLength", spec := "digestLength", inPlace := ["internal/abi.NoEscape"], named := ["lazaret/digest.first", "lazaret/digest.constants"], apart := false, laid := [("lazaret/digest.constants", laid_lazaret_digest_constants), ("lazaret/digest.first", laid_lazaret_digest_first)], narrowed := true }
def DigestLengthUptoSaid : Prop := digestLengthUptoRow.holds Tryd.pinned (OpenSpec.upto digestLengthSpec)

/-- 'lazaretlaw05.LongsSum', WHERE WHAT IT READS IS OF BULK AT MOST 1048576: true; the input reads as it did. -/
def longsSumUptoRow : OpenClaim := { program := "ytnlhhjokaekdhaadoor", sum := "6e8629f5b9931e6313b4fea3a705313bdfa75b20c95ddcaa71a43e7fa0274931", func := "lazaret/lazaretlaw05.LongsSum", spec := "longsSum", inPlace := ["internal/abi.NoEscape"], named := ["lazaret/longs.first384", "lazaret/longs.constants", "lazaret/longs.first512"], apart := false, laid := [("lazaret/longs.constants", laid_lazaret_longs_constants), ("lazaret/longs.first384", laid_lazaret_longs_first384), ("lazaret/longs.first512", laid_lazaret_longs_first512)], narrowed := true }
def LongsSumUptoSaid : Prop := longsSumUptoRow.holds Tryd.pinned (OpenSpec.upto longsSumSpec)

/-- 'lazaretlaw05.LongsEdges', WHERE WHAT IT READS IS OF BULK AT MOST 1048576: true; the input reads as it did. -/
def longsEdgesUptoRow : OpenClaim := { program := "ytnlhhjokaekdhaadoor", sum := "6e8629f5b9931e6313b4fea3a705313bdfa75b20c95ddcaa71a43e7fa0274931", func := "lazaret/lazaretlaw05.LongsEdges", spec := "longsEdges", inPlace := ["internal/abi.NoEscape"], named := ["lazaret/longs.first512", "lazaret/longs.constants", "lazaret/longs.first384"], apart := false, laid := [("lazaret/longs.constants", laid_lazaret_longs_constants), ("lazaret/longs.first384", laid_lazaret_longs_first384), ("lazaret/longs.first512", laid_lazaret_longs_first512)], narrowed := true }
def LongsEdgesUptoSaid : Prop := longsEdgesUptoRow.holds Tryd.pinned (OpenSpec.upto longsEdgesSpec)

/-- 'lazaretlaw05.LongsLength', WHERE WHAT IT READS IS OF BULK AT MOST 1048576: true; the input reads as it did. -/
def longsLengthUptoRow : OpenClaim := { program := "ytnlhhjokaekdhaadoor", sum := "6e8629f5b9931e6313b4fea3a705313bdfa75b20c95ddcaa71a43e7fa0274931", func := "lazaret/lazaretlaw05.LongsLength", spec := "longsLength", inPlace := ["internal/abi.NoEscape"], named := ["lazaret/longs.first384", "lazaret/longs.constants", "lazaret/longs.first512"], apart := false, laid := [("lazaret/longs.constants", laid_lazaret_longs_constants), ("lazaret/longs.first384", laid_lazaret_longs_first384), ("lazaret/longs.first512", laid_lazaret_longs_first512)], narrowed := true }
def LongsLengthUptoSaid : Prop := longsLengthUptoRow.holds Tryd.pinned (OpenSpec.upto longsLengthSpec)

/-- 'lazaretlaw09.RefsTell', WHERE WHAT IT READS IS OF BULK AT MOST 1048576: true; the input reads as it did. -/
def refsTellUptoRow : OpenClaim := { program := "ytnlhhjokaekdhaadoor", sum := "6e8629f5b9931e6313b4fea3a705313bdfa75b20c95ddcaa71a43e7fa0274931", func := "lazaret/lazaretlaw09.RefsTell", spec := "refsTell", named := ["lazaret/refs.windows"], apart := false, laid := [("lazaret/refs.windows", laid_lazaret_refs_windows)], narrowed := true }
def RefsTellUptoSaid : Prop := refsTellUptoRow.holds Tryd.pinned (OpenSpec.upto refsTellSpec)

/-- 'lazaretlaw09.RefsNames', WHERE WHAT IT READS IS OF BULK AT MOST 1048576: true; the input reads as it did. -/
def refsNamesUptoRow : OpenClaim := { program := "ytnlhhjokaekdhaadoor", sum := "6e8629f5b9931e6313b4fea3a705313bdfa75b20c95ddcaa71a43e7fa0274931", func := "lazaret/lazaretlaw09.RefsNames", spec := "refsNames", named := ["lazaret/refs.windows"], apart := false, laid := [("lazaret/refs.windows", laid_lazaret_refs_windows)], narrowed := true }
def RefsNamesUptoSaid : Prop := refsNamesUptoRow.holds Tryd.pinned (OpenSpec.upto refsNamesSpec)

/-- 'lazaretlaw09.RefsNumbers', WHERE WHAT IT READS IS OF BULK AT MOST 1048576: true; the input reads as it did. -/
def refsNumbersUptoRow : OpenClaim := { program := "ytnlhhjokaekdhaadoor", sum := "6e8629f5b9931e6313b4fea3a705313bdfa75b20c95ddcaa71a43e7fa0274931", func := "lazaret/lazaretlaw09.RefsNumbers", spec := "refsNumbers", named := ["lazaret/refs.windows", "internal/strconv.uint64pow10", "math/bits.deBruijn32tab", "math/bits.deBruijn64tab"], apart := false, laid := [("math/bits.deBruijn32tab", laid_math_bits_deBruijn32tab), ("math/bits.deBruijn64tab", laid_math_bits_deBruijn64tab), ("internal/strconv.uint64pow10", laid_internal_strconv_uint64pow10), ("lazaret/refs.windows", laid_lazaret_refs_windows)], narrowed := true }
def RefsNumbersUptoSaid : Prop := refsNumbersUptoRow.holds Tryd.pinned (OpenSpec.upto refsNumbersSpec)

/-- 'lazaretlaw09.RefsPlace', WHERE WHAT IT READS IS OF BULK AT MOST 1048576: true; the input reads as it did. -/
def refsPlaceUptoRow : OpenClaim := { program := "ytnlhhjokaekdhaadoor", sum := "6e8629f5b9931e6313b4fea3a705313bdfa75b20c95ddcaa71a43e7fa0274931", func := "lazaret/lazaretlaw09.RefsPlace", spec := "refsPlace", named := ["lazaret/refs.windows"], apart := false, laid := [("lazaret/refs.windows", laid_lazaret_refs_windows)], narrowed := true }
def RefsPlaceUptoSaid : Prop := refsPlaceUptoRow.holds Tryd.pinned (OpenSpec.upto refsPlaceSpec)

end Rows
end Go.Proofs.YtnlhhjokaekdhaaDoor
