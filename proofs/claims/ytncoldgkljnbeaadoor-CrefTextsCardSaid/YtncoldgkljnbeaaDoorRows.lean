/-
  NARROWER THAN 'FOR EVERY INPUT', by the rows' own cells (each row's printed sentence says how): NameReads: laid · NameParts: laid · NameLong: laid · CrefChars: laid · CrefNames: laid · CrefTexts: laid · DtdStays: laid · DtdLists: laid.
  DERIVED. THE GIVEN ROWS OF THIS SEAT. 8 by the template 'for every input the law returns true; each argument reads behind the call as it read before'; 0 by the template 'total and deterministic' (their statements: YtncoldgkljnbeaaDoorTotals.lean).
  GIVEN WITH THE SEED: the statements are not yours to turn. If you find one false, say at which input.
  Laid BY PROGRAM, IN A SANDBOX (cutbox-rows.mjs): the forced cells as the released guide's own fill.sh prints them over the translation 5583edf07f8f7092… (all of the seat's roots in one cut). By AI agents, Wed Nov 11 2026. No macro, syntax, notation, axiom, sorry.
-/
import Derived.Test.YtncoldgkljnbeaaDoorChecked
import GoSem.Claim
import GoSem.ClaimJoined
import GoSem.ClaimMapViews
import Derived.JoinedTies
import Derived.KernelRfl
namespace Go.Proofs.YtncoldgkljnbeaaDoor
/- THE CELL 'sum', in the pinned program and in every row, IS THE sha256 OF THE DUMP (.gsa) THAT YtncoldgkljnbeaaDoorProg.lean LOADS. Nothing in Lean hashes anything: it is a label: what it is worth is what the hold of that sum in a sandbox is worth. -/
noncomputable def Tryd.pinned : Pinned := { name := "ytncoldgkljnbeaadoor", sum := "5583edf07f8f70925a227eb46b34d0fb8a8eb7f0a81bdd9817511b835654f948", checked := Tryd.checked }
namespace Rows
def none {H : Type} : Left H := { results := [], args := [] }

/- WHAT THE LISTED PACKAGE-LEVEL VARIABLES READ AS WHEN THE CALL BEGINS. Each datum BY PROGRAM (the guide's laid-datum.mjs) off the statement by which the dump's own 'gosem.cut.vars' lays the variable. In a bare row this is a premise. The card (YtncoldgkljnbeaaDoorCards.lean) ties it to the program's text. -/
def laid_narthex_chars_startRuns {H : Type} : DataW H := .agg [.agg [.lit (.int .i64 58), .lit (.int .i64 58)], .agg [.lit (.int .i64 65), .lit (.int .i64 90)], .agg [.lit (.int .i64 95), .lit (.int .i64 95)], .agg [.lit (.int .i64 97), .lit (.int .i64 122)], .agg [.lit (.int .i64 192), .lit (.int .i64 214)], .agg [.lit (.int .i64 216), .lit (.int .i64 246)], .agg [.lit (.int .i64 248), .lit (.int .i64 767)], .agg [.lit (.int .i64 880), .lit (.int .i64 893)], .agg [.lit (.int .i64 895), .lit (.int .i64 8191)], .agg [.lit (.int .i64 8204), .lit (.int .i64 8205)], .agg [.lit (.int .i64 8304), .lit (.int .i64 8591)], .agg [.lit (.int .i64 11264), .lit (.int .i64 12271)], .agg [.lit (.int .i64 12289), .lit (.int .i64 55295)], .agg [.lit (.int .i64 63744), .lit (.int .i64 64975)], .agg [.lit (.int .i64 65008), .lit (.int .i64 65533)], .agg [.lit (.int .i64 65536), .lit (.int .i64 983039)]]
def laid_narthex_chars_followRuns {H : Type} : DataW H := .agg [.agg [.lit (.int .i64 45), .lit (.int .i64 46)], .agg [.lit (.int .i64 48), .lit (.int .i64 57)], .agg [.lit (.int .i64 183), .lit (.int .i64 183)], .agg [.lit (.int .i64 768), .lit (.int .i64 879)], .agg [.lit (.int .i64 8255), .lit (.int .i64 8256)]]
def laid_math_bits_deBruijn32tab {H : Type} : DataW H := .agg [.lit (.int .u8 0), .lit (.int .u8 1), .lit (.int .u8 28), .lit (.int .u8 2), .lit (.int .u8 29), .lit (.int .u8 14), .lit (.int .u8 24), .lit (.int .u8 3), .lit (.int .u8 30), .lit (.int .u8 22), .lit (.int .u8 20), .lit (.int .u8 15), .lit (.int .u8 25), .lit (.int .u8 17), .lit (.int .u8 4), .lit (.int .u8 8), .lit (.int .u8 31), .lit (.int .u8 27), .lit (.int .u8 13), .lit (.int .u8 23), .lit (.int .u8 21), .lit (.int .u8 19), .lit (.int .u8 16), .lit (.int .u8 7), .lit (.int .u8 26), .lit (.int .u8 12), .lit (.int .u8 18), .lit (.int .u8 6), .lit (.int .u8 11), .lit (.int .u8 5), .lit (.int .u8 10), .lit (.int .u8 9)]
def laid_math_bits_deBruijn64tab {H : Type} : DataW H := .agg [.lit (.int .u8 0), .lit (.int .u8 1), .lit (.int .u8 56), .lit (.int .u8 2), .lit (.int .u8 57), .lit (.int .u8 49), .lit (.int .u8 28), .lit (.int .u8 3), .lit (.int .u8 61), .lit (.int .u8 58), .lit (.int .u8 42), .lit (.int .u8 50), .lit (.int .u8 38), .lit (.int .u8 29), .lit (.int .u8 17), .lit (.int .u8 4), .lit (.int .u8 62), .lit (.int .u8 47), .lit (.int .u8 59), .lit (.int .u8 36), .lit (.int .u8 45), .lit (.int .u8 43), .lit (.int .u8 51), .lit (.int .u8 22), .lit (.int .u8 53), .lit (.int .u8 39), .lit (.int .u8 33), .lit (.int .u8 30), .lit (.int .u8 24), .lit (.int .u8 18), .lit (.int .u8 12), .lit (.int .u8 5), .lit (.int .u8 63), .lit (.int .u8 55), .lit (.int .u8 48), .lit (.int .u8 27), .lit (.int .u8 60), .lit (.int .u8 41), .lit (.int .u8 37), .lit (.int .u8 16), .lit (.int .u8 46), .lit (.int .u8 35), .lit (.int .u8 44), .lit (.int .u8 21), .lit (.int .u8 52), .lit (.int .u8 32), .lit (.int .u8 23), .lit (.int .u8 11), .lit (.int .u8 54), .lit (.int .u8 26), .lit (.int .u8 40), .lit (.int .u8 15), .lit (.int .u8 34), .lit (.int .u8 20), .lit (.int .u8 31), .lit (.int .u8 10), .lit (.int .u8 25), .lit (.int .u8 14), .lit (.int .u8 19), .lit (.int .u8 9), .lit (.int .u8 13), .lit (.int .u8 8), .lit (.int .u8 7), .lit (.int .u8 6)]
def laid_internal_strconv_uint64pow10 {H : Type} : DataW H := .agg [.lit (.int .u64 1), .lit (.int .u64 10), .lit (.int .u64 100), .lit (.int .u64 1000), .lit (.int .u64 10000), .lit (.int .u64 100000), .lit (.int .u64 1000000), .lit (.int .u64 10000000), .lit (.int .u64 100000000), .lit (.int .u64 1000000000), .lit (.int .u64 10000000000), .lit (.int .u64 100000000000), .lit (.int .u64 1000000000000), .lit (.int .u64 10000000000000), .lit (.int .u64 100000000000000), .lit (.int .u64 1000000000000000), .lit (.int .u64 10000000000000000), .lit (.int .u64 100000000000000000), .lit (.int .u64 1000000000000000000), .lit (.int .u64 10000000000000000000)]
def laid_narthex_chars_charRuns {H : Type} : DataW H := .agg [.agg [.lit (.int .i64 9), .lit (.int .i64 10)], .agg [.lit (.int .i64 13), .lit (.int .i64 13)], .agg [.lit (.int .i64 32), .lit (.int .i64 55295)], .agg [.lit (.int .i64 57344), .lit (.int .i64 65533)], .agg [.lit (.int .i64 65536), .lit (.int .i64 1114111)]]
def laid_narthex_cref_known {H : Type} : DataW H := .agg [.agg [.lit (.string [108, 116]), .lit (.int .i64 60)], .agg [.lit (.string [103, 116]), .lit (.int .i64 62)], .agg [.lit (.string [97, 109, 112]), .lit (.int .i64 38)], .agg [.lit (.string [97, 112, 111, 115]), .lit (.int .i64 39)], .agg [.lit (.string [113, 117, 111, 116]), .lit (.int .i64 34)]]

/-- 'narthexlaw05.NameReads': WHATEVER THE INPUT: true; the input reads as it did. -/
def nameReadsSpec : ChangeSpec := { name := "nameReads", fn := fun _ => fun
  | [d1, d2] => { results := [.lit (.bool true)], args := [d1, d2] }
  | _ => none }
def nameReadsRow : OpenClaim := { program := "ytncoldgkljnbeaadoor", sum := "5583edf07f8f70925a227eb46b34d0fb8a8eb7f0a81bdd9817511b835654f948", func := "narthex/narthexlaw05.NameReads", spec := "nameReads", inPlace := ["internal/bytealg.IndexByteString", "internal/bytealg.IndexString"], unfollowed := true, recurses := true, named := ["narthex/chars.startRuns", "narthex/chars.followRuns", "internal/bytealg.MaxLen"], apart := false, laid := [("narthex/chars.startRuns", laid_narthex_chars_startRuns), ("narthex/chars.followRuns", laid_narthex_chars_followRuns)] }
def NameReadsSaid : Prop := nameReadsRow.holds Tryd.pinned (OpenSpec.ofChange nameReadsSpec)

/-- ITS FALSE NEIGHBOUR: 'it returns false'. Refute it at one input. -/
def nameReadsWrong : ChangeSpec := { name := "nameReads", fn := fun _ => fun
  | [d1, d2] => { results := [.lit (.bool false)], args := [d1, d2] }
  | _ => none }
def NameReadsWrongFalsely : Prop := nameReadsRow.holds Tryd.pinned (OpenSpec.ofChange nameReadsWrong)

/-- 'narthexlaw05.NameParts': WHATEVER THE INPUT: true; the input reads as it did. -/
def namePartsSpec : ChangeSpec := { name := "nameParts", fn := fun _ => fun
  | [d] => { results := [.lit (.bool true)], args := [d] }
  | _ => none }
def namePartsRow : OpenClaim := { program := "ytncoldgkljnbeaadoor", sum := "5583edf07f8f70925a227eb46b34d0fb8a8eb7f0a81bdd9817511b835654f948", func := "narthex/narthexlaw05.NameParts", spec := "nameParts", inPlace := ["internal/bytealg.IndexByteString", "internal/bytealg.IndexString"], unfollowed := true, recurses := true, named := ["narthex/chars.startRuns", "narthex/chars.followRuns", "internal/bytealg.MaxLen"], apart := false, laid := [("narthex/chars.startRuns", laid_narthex_chars_startRuns), ("narthex/chars.followRuns", laid_narthex_chars_followRuns)] }
def NamePartsSaid : Prop := namePartsRow.holds Tryd.pinned (OpenSpec.ofChange namePartsSpec)

/-- ITS FALSE NEIGHBOUR: 'it returns false'. Refute it at one input. -/
def namePartsWrong : ChangeSpec := { name := "nameParts", fn := fun _ => fun
  | [d] => { results := [.lit (.bool false)], args := [d] }
  | _ => none }
def NamePartsWrongFalsely : Prop := namePartsRow.holds Tryd.pinned (OpenSpec.ofChange namePartsWrong)

/-- 'narthexlaw05.NameLong': WHATEVER THE INPUT: true; the input reads as it did. -/
def nameLongSpec : ChangeSpec := { name := "nameLong", fn := fun _ => fun
  | [d] => { results := [.lit (.bool true)], args := [d] }
  | _ => none }
def nameLongRow : OpenClaim := { program := "ytncoldgkljnbeaadoor", sum := "5583edf07f8f70925a227eb46b34d0fb8a8eb7f0a81bdd9817511b835654f948", func := "narthex/narthexlaw05.NameLong", spec := "nameLong", inPlace := ["internal/bytealg.IndexByteString", "internal/bytealg.IndexString"], unfollowed := true, recurses := true, named := ["narthex/chars.startRuns", "narthex/chars.followRuns", "internal/bytealg.MaxLen"], apart := false, laid := [("narthex/chars.startRuns", laid_narthex_chars_startRuns), ("narthex/chars.followRuns", laid_narthex_chars_followRuns)] }
def NameLongSaid : Prop := nameLongRow.holds Tryd.pinned (OpenSpec.ofChange nameLongSpec)

/-- ITS FALSE NEIGHBOUR: 'it returns false'. Refute it at one input. -/
def nameLongWrong : ChangeSpec := { name := "nameLong", fn := fun _ => fun
  | [d] => { results := [.lit (.bool false)], args := [d] }
  | _ => none }
def NameLongWrongFalsely : Prop := nameLongRow.holds Tryd.pinned (OpenSpec.ofChange nameLongWrong)

/-- 'narthexlaw06.CrefChars': WHATEVER THE INPUT: true; the input reads as it did. -/
def crefCharsSpec : ChangeSpec := { name := "crefChars", fn := fun _ => fun
  | [d1, d2] => { results := [.lit (.bool true)], args := [d1, d2] }
  | _ => none }
def crefCharsRow : OpenClaim := { program := "ytncoldgkljnbeaadoor", sum := "5583edf07f8f70925a227eb46b34d0fb8a8eb7f0a81bdd9817511b835654f948", func := "narthex/narthexlaw06.CrefChars", spec := "crefChars", inPlace := ["internal/abi.NoEscape"], unfollowed := true, recurses := true, named := ["narthex/chars.charRuns", "narthex/chars.startRuns", "narthex/chars.followRuns", "internal/strconv.uint64pow10", "math/bits.deBruijn32tab", "math/bits.deBruijn64tab"], apart := false, laid := [("math/bits.deBruijn32tab", laid_math_bits_deBruijn32tab), ("math/bits.deBruijn64tab", laid_math_bits_deBruijn64tab), ("internal/strconv.uint64pow10", laid_internal_strconv_uint64pow10), ("narthex/chars.charRuns", laid_narthex_chars_charRuns), ("narthex/chars.startRuns", laid_narthex_chars_startRuns), ("narthex/chars.followRuns", laid_narthex_chars_followRuns)] }
def CrefCharsSaid : Prop := crefCharsRow.holds Tryd.pinned (OpenSpec.ofChange crefCharsSpec)

/-- ITS FALSE NEIGHBOUR: 'it returns false'. Refute it at one input. -/
def crefCharsWrong : ChangeSpec := { name := "crefChars", fn := fun _ => fun
  | [d1, d2] => { results := [.lit (.bool false)], args := [d1, d2] }
  | _ => none }
def CrefCharsWrongFalsely : Prop := crefCharsRow.holds Tryd.pinned (OpenSpec.ofChange crefCharsWrong)

/-- 'narthexlaw06.CrefNames': WHATEVER THE INPUT: true; the input reads as it did. -/
def crefNamesSpec : ChangeSpec := { name := "crefNames", fn := fun _ => fun
  | [d1, d2, d3] => { results := [.lit (.bool true)], args := [d1, d2, d3] }
  | _ => none }
def crefNamesRow : OpenClaim := { program := "ytncoldgkljnbeaadoor", sum := "5583edf07f8f70925a227eb46b34d0fb8a8eb7f0a81bdd9817511b835654f948", func := "narthex/narthexlaw06.CrefNames", spec := "crefNames", inPlace := ["internal/abi.NoEscape"], unfollowed := true, recurses := true, named := ["narthex/chars.charRuns", "narthex/chars.startRuns", "narthex/chars.followRuns", "internal/strconv.uint64pow10", "math/bits.deBruijn32tab", "math/bits.deBruijn64tab", "narthex/cref.known"], apart := false, laid := [("math/bits.deBruijn32tab", laid_math_bits_deBruijn32tab), ("math/bits.deBruijn64tab", laid_math_bits_deBruijn64tab), ("internal/strconv.uint64pow10", laid_internal_strconv_uint64pow10), ("narthex/chars.charRuns", laid_narthex_chars_charRuns), ("narthex/chars.startRuns", laid_narthex_chars_startRuns), ("narthex/chars.followRuns", laid_narthex_chars_followRuns), ("narthex/cref.known", laid_narthex_cref_known)] }
def CrefNamesSaid : Prop := crefNamesRow.holds Tryd.pinned (OpenSpec.ofChange crefNamesSpec)

/-- ITS FALSE NEIGHBOUR: 'it returns false'. Refute it at one input. -/
def crefNamesWrong : ChangeSpec := { name := "crefNames", fn := fun _ => fun
  | [d1, d2, d3] => { results := [.lit (.bool false)], args := [d1, d2, d3] }
  | _ => none }
def CrefNamesWrongFalsely : Prop := crefNamesRow.holds Tryd.pinned (OpenSpec.ofChange crefNamesWrong)

/-- 'narthexlaw06.CrefTexts': WHATEVER THE INPUT: true; the input reads as it did. -/
def crefTextsSpec : ChangeSpec := { name := "crefTexts", fn := fun _ => fun
  | [d1, d2] => { results := [.lit (.bool true)], args := [d1, d2] }
  | _ => none }
def crefTextsRow : OpenClaim := { program := "ytncoldgkljnbeaadoor", sum := "5583edf07f8f70925a227eb46b34d0fb8a8eb7f0a81bdd9817511b835654f948", func := "narthex/narthexlaw06.CrefTexts", spec := "crefTexts", inPlace := ["internal/abi.NoEscape"], unfollowed := true, recurses := true, named := ["narthex/chars.charRuns", "narthex/chars.startRuns", "narthex/chars.followRuns", "internal/strconv.uint64pow10", "math/bits.deBruijn32tab", "math/bits.deBruijn64tab"], apart := false, laid := [("math/bits.deBruijn32tab", laid_math_bits_deBruijn32tab), ("math/bits.deBruijn64tab", laid_math_bits_deBruijn64tab), ("internal/strconv.uint64pow10", laid_internal_strconv_uint64pow10), ("narthex/chars.charRuns", laid_narthex_chars_charRuns), ("narthex/chars.startRuns", laid_narthex_chars_startRuns), ("narthex/chars.followRuns", laid_narthex_chars_followRuns)] }
def CrefTextsSaid : Prop := crefTextsRow.holds Tryd.pinned (OpenSpec.ofChange crefTextsSpec)

/-- ITS FALSE NEIGHBOUR: 'it returns false'. Refute it at one input. -/
def crefTextsWrong : ChangeSpec := { name := "crefTexts", fn := fun _ => fun
  | [d1, d2] => { results := [.lit (.bool false)], args := [d1, d2] }
  | _ => none }
def CrefTextsWrongFalsely : Prop := crefTextsRow.holds Tryd.pinned (OpenSpec.ofChange crefTextsWrong)

/-- 'narthexlaw17.DtdStays': WHATEVER THE INPUT: true; the input reads as it did. -/
def dtdStaysSpec : ChangeSpec := { name := "dtdStays", fn := fun _ => fun
  | [d] => { results := [.lit (.bool true)], args := [d] }
  | _ => none }
def dtdStaysRow : OpenClaim := { program := "ytncoldgkljnbeaadoor", sum := "5583edf07f8f70925a227eb46b34d0fb8a8eb7f0a81bdd9817511b835654f948", func := "narthex/narthexlaw17.DtdStays", spec := "dtdStays", named := ["narthex/cref.known"], apart := false, laid := [("narthex/cref.known", laid_narthex_cref_known)] }
def DtdStaysSaid : Prop := dtdStaysRow.holds Tryd.pinned (OpenSpec.ofChange dtdStaysSpec)

/-- ITS FALSE NEIGHBOUR: 'it returns false'. Refute it at one input. -/
def dtdStaysWrong : ChangeSpec := { name := "dtdStays", fn := fun _ => fun
  | [d] => { results := [.lit (.bool false)], args := [d] }
  | _ => none }
def DtdStaysWrongFalsely : Prop := dtdStaysRow.holds Tryd.pinned (OpenSpec.ofChange dtdStaysWrong)

/-- 'narthexlaw17.DtdLists': WHATEVER THE INPUT: true; the input reads as it did. -/
def dtdListsSpec : ChangeSpec := { name := "dtdLists", fn := fun _ => fun
  | [d] => { results := [.lit (.bool true)], args := [d] }
  | _ => none }
def dtdListsRow : OpenClaim := { program := "ytncoldgkljnbeaadoor", sum := "5583edf07f8f70925a227eb46b34d0fb8a8eb7f0a81bdd9817511b835654f948", func := "narthex/narthexlaw17.DtdLists", spec := "dtdLists", named := ["narthex/cref.known"], apart := false, laid := [("narthex/cref.known", laid_narthex_cref_known)] }
def DtdListsSaid : Prop := dtdListsRow.holds Tryd.pinned (OpenSpec.ofChange dtdListsSpec)

/-- ITS FALSE NEIGHBOUR: 'it returns false'. Refute it at one input. -/
def dtdListsWrong : ChangeSpec := { name := "dtdLists", fn := fun _ => fun
  | [d] => { results := [.lit (.bool false)], args := [d] }
  | _ => none }
def DtdListsWrongFalsely : Prop := dtdListsRow.holds Tryd.pinned (OpenSpec.ofChange dtdListsWrong)

/- THE SECOND FORM. 'bulk': how many values and letters a reading holds, each counted each time it is reached (what is shared counts as often as it is met; a slice's spare places count too). A statement '..UptoSaid' is the law's where the arguments, and the package variables that the reading takes, are together of bulk at most 1048576: NARROWER than '..Said'. Prove '..Said' where nothing that the law and all that it calls make is longer than what came in: it says more and counts as full. Else prove '..UptoSaid'. A law counts once. -/
mutual
def uptoBulk {H : Type} : DataW H → Nat
  | .lit (.string bytes) => bytes.length + 1
  | .lit _ => 1
  | .nil => 1
  | .ptr d => uptoBulk d + 1
  | .slice elems spare => uptoBulkAll elems + uptoBulkAll spare + 1
  | .agg parts => uptoBulkAll parts + 1
  | .iface _ d => uptoBulk d + 1
  | .map entries => uptoBulkEntries entries + 1
  | .held _ => 1
def uptoBulkAll {H : Type} : List (DataW H) → Nat
  | [] => 0
  | d :: r => uptoBulk d + uptoBulkAll r
def uptoBulkEntries {H : Type} : List (Lit × DataW H) → Nat
  | [] => 0
  | x :: r => uptoBulkEntry x + uptoBulkEntries r
def uptoBulkEntry {H : Type} : Lit × DataW H → Nat
  | (.string bytes, d) => bytes.length + uptoBulk d + 1
  | (_, d) => uptoBulk d + 1
 end
def uptoSmall : (H : Type) → List (DataW H) → Bool := fun _ ds => decide (uptoBulkAll ds ≤ 1048576)
def OpenSpec.upto (s : _root_.Go.ChangeSpec) : _root_.Go.OpenSpec := { _root_.Go.OpenSpec.ofChange s with cond := some uptoSmall }

/-- 'narthexlaw05.NameReads', WHERE WHAT IT READS IS OF BULK AT MOST 1048576: true; the input reads as it did. -/
def nameReadsUptoRow : OpenClaim := { program := "ytncoldgkljnbeaadoor", sum := "5583edf07f8f70925a227eb46b34d0fb8a8eb7f0a81bdd9817511b835654f948", func := "narthex/narthexlaw05.NameReads", spec := "nameReads", inPlace := ["internal/bytealg.IndexByteString", "internal/bytealg.IndexString"], unfollowed := true, recurses := true, named := ["narthex/chars.startRuns", "narthex/chars.followRuns", "internal/bytealg.MaxLen"], apart := false, laid := [("narthex/chars.startRuns", laid_narthex_chars_startRuns), ("narthex/chars.followRuns", laid_narthex_chars_followRuns)], narrowed := true }
def NameReadsUptoSaid : Prop := nameReadsUptoRow.holds Tryd.pinned (OpenSpec.upto nameReadsSpec)

/-- 'narthexlaw05.NameParts', WHERE WHAT IT READS IS OF BULK AT MOST 1048576: true; the input reads as it did. -/
def namePartsUptoRow : OpenClaim := { program := "ytncoldgkljnbeaadoor", sum := "5583edf07f8f70925a227eb46b34d0fb8a8eb7f0a81bdd9817511b835654f948", func := "narthex/narthexlaw05.NameParts", spec := "nameParts", inPlace := ["internal/bytealg.IndexByteString", "internal/bytealg.IndexString"], unfollowed := true, recurses := true, named := ["narthex/chars.startRuns", "narthex/chars.followRuns", "internal/bytealg.MaxLen"], apart := false, laid := [("narthex/chars.startRuns", laid_narthex_chars_startRuns), ("narthex/chars.followRuns", laid_narthex_chars_followRuns)], narrowed := true }
def NamePartsUptoSaid : Prop := namePartsUptoRow.holds Tryd.pinned (OpenSpec.upto namePartsSpec)

/-- 'narthexlaw05.NameLong', WHERE WHAT IT READS IS OF BULK AT MOST 1048576: true; the input reads as it did. -/
def nameLongUptoRow : OpenClaim := { program := "ytncoldgkljnbeaadoor", sum := "5583edf07f8f70925a227eb46b34d0fb8a8eb7f0a81bdd9817511b835654f948", func := "narthex/narthexlaw05.NameLong", spec := "nameLong", inPlace := ["internal/bytealg.IndexByteString", "internal/bytealg.IndexString"], unfollowed := true, recurses := true, named := ["narthex/chars.startRuns", "narthex/chars.followRuns", "internal/bytealg.MaxLen"], apart := false, laid := [("narthex/chars.startRuns", laid_narthex_chars_startRuns), ("narthex/chars.followRuns", laid_narthex_chars_followRuns)], narrowed := true }
def NameLongUptoSaid : Prop := nameLongUptoRow.holds Tryd.pinned (OpenSpec.upto nameLongSpec)

/-- 'narthexlaw06.CrefChars', WHERE WHAT IT READS IS OF BULK AT MOST 1048576: true; the input reads as it did. -/
def crefCharsUptoRow : OpenClaim := { program := "ytncoldgkljnbeaadoor", sum := "5583edf07f8f70925a227eb46b34d0fb8a8eb7f0a81bdd9817511b835654f948", func := "narthex/narthexlaw06.CrefChars", spec := "crefChars", inPlace := ["internal/abi.NoEscape"], unfollowed := true, recurses := true, named := ["narthex/chars.charRuns", "narthex/chars.startRuns", "narthex/chars.followRuns", "internal/strconv.uint64pow10", "math/bits.deBruijn32tab", "math/bits.deBruijn64tab"], apart := false, laid := [("math/bits.deBruijn32tab", laid_math_bits_deBruijn32tab), ("math/bits.deBruijn64tab", laid_math_bits_deBruijn64tab), ("internal/strconv.uint64pow10", laid_internal_strconv_uint64pow10), ("narthex/chars.charRuns", laid_narthex_chars_charRuns), ("narthex/chars.startRuns", laid_narthex_chars_startRuns), ("narthex/chars.followRuns", laid_narthex_chars_followRuns)], narrowed := true }
def CrefCharsUptoSaid : Prop := crefCharsUptoRow.holds Tryd.pinned (OpenSpec.upto crefCharsSpec)

/-- 'narthexlaw06.CrefNames', WHERE WHAT IT READS IS OF BULK AT MOST 1048576: true; the input reads as it did. -/
def crefNamesUptoRow : OpenClaim := { program := "ytncoldgkljnbeaadoor", sum := "5583edf07f8f70925a227eb46b34d0fb8a8eb7f0a81bdd9817511b835654f948", func := "narthex/narthexlaw06.CrefNames", spec := "crefNames", inPlace := ["internal/abi.NoEscape"], unfollowed := true, recurses := true, named := ["narthex/chars.charRuns", "narthex/chars.startRuns", "narthex/chars.followRuns", "internal/strconv.uint64pow10", "math/bits.deBruijn32tab", "math/bits.deBruijn64tab", "narthex/cref.known"], apart := false, laid := [("math/bits.deBruijn32tab", laid_math_bits_deBruijn32tab), ("math/bits.deBruijn64tab", laid_math_bits_deBruijn64tab), ("internal/strconv.uint64pow10", laid_internal_strconv_uint64pow10), ("narthex/chars.charRuns", laid_narthex_chars_charRuns), ("narthex/chars.startRuns", laid_narthex_chars_startRuns), ("narthex/chars.followRuns", laid_narthex_chars_followRuns), ("narthex/cref.known", laid_narthex_cref_known)], narrowed := true }
def CrefNamesUptoSaid : Prop := crefNamesUptoRow.holds Tryd.pinned (OpenSpec.upto crefNamesSpec)

/-- 'narthexlaw06.CrefTexts', WHERE WHAT IT READS IS OF BULK AT MOST 1048576: true; the input reads as it did. -/
def crefTextsUptoRow : OpenClaim := { program := "ytncoldgkljnbeaadoor", sum := "5583edf07f8f70925a227eb46b34d0fb8a8eb7f0a81bdd9817511b835654f948", func := "narthex/narthexlaw06.CrefTexts", spec := "crefTexts", inPlace := ["internal/abi.NoEscape"], unfollowed := true, recurses := true, named := ["narthex/chars.charRuns", "narthex/chars.startRuns", "narthex/chars.followRuns", "internal/strconv.uint64pow10", "math/bits.deBruijn32tab", "math/bits.deBruijn64tab"], apart := false, laid := [("math/bits.deBruijn32tab", laid_math_bits_deBruijn32tab), ("math/bits.deBruijn64tab", laid_math_bits_deBruijn64tab), ("internal/strconv.uint64pow10", laid_internal_strconv_uint64pow10), ("narthex/chars.charRuns", laid_narthex_chars_charRuns), ("narthex/chars.startRuns", laid_narthex_chars_startRuns), ("narthex/chars.followRuns", laid_narthex_chars_followRuns)], narrowed := true }
def CrefTextsUptoSaid : Prop := crefTextsUptoRow.holds Tryd.pinned (OpenSpec.upto crefTextsSpec)

/-- 'narthexlaw17.DtdStays', WHERE WHAT IT READS IS OF BULK AT MOST 1048576: true; the input reads as it did. -/
def dtdStaysUptoRow : OpenClaim := { program := "ytncoldgkljnbeaadoor", sum := "5583edf07f8f70925a227eb46b34d0fb8a8eb7f0a81bdd9817511b835654f948", func := "narthex/narthexlaw17.DtdStays", spec := "dtdStays", named := ["narthex/cref.known"], apart := false, laid := [("narthex/cref.known", laid_narthex_cref_known)], narrowed := true }
def DtdStaysUptoSaid : Prop := dtdStaysUptoRow.holds Tryd.pinned (OpenSpec.upto dtdStaysSpec)

/-- 'narthexlaw17.DtdLists', WHERE WHAT IT READS IS OF BULK AT MOST 1048576: true; the input reads as it did. -/
def dtdListsUptoRow : OpenClaim := { program := "ytncoldgkljnbeaadoor", sum := "5583edf07f8f70925a227eb46b34d0fb8a8eb7f0a81bdd9817511b835654f948", func := "narthex/narthexlaw17.DtdLists", spec := "dtdLists", named := ["narthex/cref.known"], apart := false, laid := [("narthex/cref.known", laid_narthex_cref_known)], narrowed := true }
def DtdListsUptoSaid : Prop := dtdListsUptoRow.holds Tryd.pinned (OpenSpec.upto dtdListsSpec)

end Rows
end Go.Proofs.YtncoldgkljnbeaaDoor
