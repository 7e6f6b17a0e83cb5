/-
  NARROWER THAN 'FOR EVERY INPUT', by the rows' own cells (each row's printed sentence says how): TagPuts: laid · TagAgain: laid · XdeclReads: laid · XdeclPuts: laid · XdeclBlanks: laid · ExtidHeads: laid · ExtidPuts: laid · EvalueTexts: laid · EvaluePuts: laid · EvalueParts: laid · BindMay: laid · BindSplits: laid.
  DERIVED. THE GIVEN ROWS OF THIS SEAT. 12 by the template 'for every input the law returns true; each argument reads behind the call as it read before'; 0 by the template 'total and deterministic' (their statements: YtdmfladcldkmeaaDoorTotals.lean).
  GIVEN WITH THE SEED: the statements are not yours to turn. If you find one false, say at which input.
  Laid BY PROGRAM, IN A SANDBOX (cutbox-rows.mjs): the forced cells as the released guide's own fill.sh prints them over the translation 85ddd53c2013c52d… (all of the seat's roots in one cut). By AI agents, Wed Nov 11 2026. No macro, syntax, notation, axiom, sorry.
-/
import Derived.Test.YtdmfladcldkmeaaDoorChecked
import GoSem.PinnedTables
import GoSem.Claim
import GoSem.ClaimJoined
import GoSem.ClaimMapViews
import Derived.JoinedTies
import Derived.KernelRfl
namespace Go.Proofs.YtdmfladcldkmeaaDoor
/- THE CELL 'sum', in the pinned program and in every row, IS THE sha256 OF THE DUMP (.gsa) THAT YtdmfladcldkmeaaDoorProg.lean LOADS. Nothing in Lean hashes anything: it is a label: what it is worth is what the hold of that sum in a sandbox is worth. -/
noncomputable def Tryd.pinned : Pinned := { name := "ytdmfladcldkmeaadoor", sum := "85ddd53c2013c52d8c6113bc8d61b2c0644c1669a63a1f03504a303484336dea", checked := Tryd.checked }
namespace Rows
def none {H : Type} : Left H := { results := [], args := [] }

/- WHAT THE LISTED PACKAGE-LEVEL VARIABLES READ AS WHEN THE CALL BEGINS. Each datum BY PROGRAM (the guide's laid-datum.mjs) off the statement by which the dump's own 'gosem.cut.vars' lays the variable. In a bare row this is a premise. The card (YtdmfladcldkmeaaDoorCards.lean) ties it to the program's text. -/
def laid_narthex_chars_charRuns {H : Type} : DataW H := .agg [.agg [.lit (.int .i64 9), .lit (.int .i64 10)], .agg [.lit (.int .i64 13), .lit (.int .i64 13)], .agg [.lit (.int .i64 32), .lit (.int .i64 55295)], .agg [.lit (.int .i64 57344), .lit (.int .i64 65533)], .agg [.lit (.int .i64 65536), .lit (.int .i64 1114111)]]
def laid_narthex_chars_startRuns {H : Type} : DataW H := .agg [.agg [.lit (.int .i64 58), .lit (.int .i64 58)], .agg [.lit (.int .i64 65), .lit (.int .i64 90)], .agg [.lit (.int .i64 95), .lit (.int .i64 95)], .agg [.lit (.int .i64 97), .lit (.int .i64 122)], .agg [.lit (.int .i64 192), .lit (.int .i64 214)], .agg [.lit (.int .i64 216), .lit (.int .i64 246)], .agg [.lit (.int .i64 248), .lit (.int .i64 767)], .agg [.lit (.int .i64 880), .lit (.int .i64 893)], .agg [.lit (.int .i64 895), .lit (.int .i64 8191)], .agg [.lit (.int .i64 8204), .lit (.int .i64 8205)], .agg [.lit (.int .i64 8304), .lit (.int .i64 8591)], .agg [.lit (.int .i64 11264), .lit (.int .i64 12271)], .agg [.lit (.int .i64 12289), .lit (.int .i64 55295)], .agg [.lit (.int .i64 63744), .lit (.int .i64 64975)], .agg [.lit (.int .i64 65008), .lit (.int .i64 65533)], .agg [.lit (.int .i64 65536), .lit (.int .i64 983039)]]
def laid_narthex_chars_followRuns {H : Type} : DataW H := .agg [.agg [.lit (.int .i64 45), .lit (.int .i64 46)], .agg [.lit (.int .i64 48), .lit (.int .i64 57)], .agg [.lit (.int .i64 183), .lit (.int .i64 183)], .agg [.lit (.int .i64 768), .lit (.int .i64 879)], .agg [.lit (.int .i64 8255), .lit (.int .i64 8256)]]
def laid_unicode_utf8_acceptRanges {H : Type} : DataW H := .agg [.agg [.lit (.int .u8 128), .lit (.int .u8 191)], .agg [.lit (.int .u8 160), .lit (.int .u8 191)], .agg [.lit (.int .u8 128), .lit (.int .u8 159)], .agg [.lit (.int .u8 144), .lit (.int .u8 191)], .agg [.lit (.int .u8 128), .lit (.int .u8 143)], .agg [.lit (.int .u8 0), .lit (.int .u8 0)], .agg [.lit (.int .u8 0), .lit (.int .u8 0)], .agg [.lit (.int .u8 0), .lit (.int .u8 0)], .agg [.lit (.int .u8 0), .lit (.int .u8 0)], .agg [.lit (.int .u8 0), .lit (.int .u8 0)], .agg [.lit (.int .u8 0), .lit (.int .u8 0)], .agg [.lit (.int .u8 0), .lit (.int .u8 0)], .agg [.lit (.int .u8 0), .lit (.int .u8 0)], .agg [.lit (.int .u8 0), .lit (.int .u8 0)], .agg [.lit (.int .u8 0), .lit (.int .u8 0)], .agg [.lit (.int .u8 0), .lit (.int .u8 0)]]
def laid_unicode_asciiFold {H : Type} : DataW H := .agg [.lit (.int .u16 0), .lit (.int .u16 1), .lit (.int .u16 2), .lit (.int .u16 3), .lit (.int .u16 4), .lit (.int .u16 5), .lit (.int .u16 6), .lit (.int .u16 7), .lit (.int .u16 8), .lit (.int .u16 9), .lit (.int .u16 10), .lit (.int .u16 11), .lit (.int .u16 12), .lit (.int .u16 13), .lit (.int .u16 14), .lit (.int .u16 15), .lit (.int .u16 16), .lit (.int .u16 17), .lit (.int .u16 18), .lit (.int .u16 19), .lit (.int .u16 20), .lit (.int .u16 21), .lit (.int .u16 22), .lit (.int .u16 23), .lit (.int .u16 24), .lit (.int .u16 25), .lit (.int .u16 26), .lit (.int .u16 27), .lit (.int .u16 28), .lit (.int .u16 29), .lit (.int .u16 30), .lit (.int .u16 31), .lit (.int .u16 32), .lit (.int .u16 33), .lit (.int .u16 34), .lit (.int .u16 35), .lit (.int .u16 36), .lit (.int .u16 37), .lit (.int .u16 38), .lit (.int .u16 39), .lit (.int .u16 40), .lit (.int .u16 41), .lit (.int .u16 42), .lit (.int .u16 43), .lit (.int .u16 44), .lit (.int .u16 45), .lit (.int .u16 46), .lit (.int .u16 47), .lit (.int .u16 48), .lit (.int .u16 49), .lit (.int .u16 50), .lit (.int .u16 51), .lit (.int .u16 52), .lit (.int .u16 53), .lit (.int .u16 54), .lit (.int .u16 55), .lit (.int .u16 56), .lit (.int .u16 57), .lit (.int .u16 58), .lit (.int .u16 59), .lit (.int .u16 60), .lit (.int .u16 61), .lit (.int .u16 62), .lit (.int .u16 63), .lit (.int .u16 64), .lit (.int .u16 97), .lit (.int .u16 98), .lit (.int .u16 99), .lit (.int .u16 100), .lit (.int .u16 101), .lit (.int .u16 102), .lit (.int .u16 103), .lit (.int .u16 104), .lit (.int .u16 105), .lit (.int .u16 106), .lit (.int .u16 107), .lit (.int .u16 108), .lit (.int .u16 109), .lit (.int .u16 110), .lit (.int .u16 111), .lit (.int .u16 112), .lit (.int .u16 113), .lit (.int .u16 114), .lit (.int .u16 115), .lit (.int .u16 116), .lit (.int .u16 117), .lit (.int .u16 118), .lit (.int .u16 119), .lit (.int .u16 120), .lit (.int .u16 121), .lit (.int .u16 122), .lit (.int .u16 91), .lit (.int .u16 92), .lit (.int .u16 93), .lit (.int .u16 94), .lit (.int .u16 95), .lit (.int .u16 96), .lit (.int .u16 65), .lit (.int .u16 66), .lit (.int .u16 67), .lit (.int .u16 68), .lit (.int .u16 69), .lit (.int .u16 70), .lit (.int .u16 71), .lit (.int .u16 72), .lit (.int .u16 73), .lit (.int .u16 74), .lit (.int .u16 8490), .lit (.int .u16 76), .lit (.int .u16 77), .lit (.int .u16 78), .lit (.int .u16 79), .lit (.int .u16 80), .lit (.int .u16 81), .lit (.int .u16 82), .lit (.int .u16 383), .lit (.int .u16 84), .lit (.int .u16 85), .lit (.int .u16 86), .lit (.int .u16 87), .lit (.int .u16 88), .lit (.int .u16 89), .lit (.int .u16 90), .lit (.int .u16 123), .lit (.int .u16 124), .lit (.int .u16 125), .lit (.int .u16 126), .lit (.int .u16 127)]
def laid_unicode_caseOrbit {H : Type} : DataW H := .slice [.agg [.lit (.int .u16 75), .lit (.int .u16 107)], .agg [.lit (.int .u16 83), .lit (.int .u16 115)], .agg [.lit (.int .u16 107), .lit (.int .u16 8490)], .agg [.lit (.int .u16 115), .lit (.int .u16 383)], .agg [.lit (.int .u16 181), .lit (.int .u16 924)], .agg [.lit (.int .u16 197), .lit (.int .u16 229)], .agg [.lit (.int .u16 223), .lit (.int .u16 7838)], .agg [.lit (.int .u16 229), .lit (.int .u16 8491)], .agg [.lit (.int .u16 304), .lit (.int .u16 304)], .agg [.lit (.int .u16 305), .lit (.int .u16 305)], .agg [.lit (.int .u16 383), .lit (.int .u16 83)], .agg [.lit (.int .u16 452), .lit (.int .u16 453)], .agg [.lit (.int .u16 453), .lit (.int .u16 454)], .agg [.lit (.int .u16 454), .lit (.int .u16 452)], .agg [.lit (.int .u16 455), .lit (.int .u16 456)], .agg [.lit (.int .u16 456), .lit (.int .u16 457)], .agg [.lit (.int .u16 457), .lit (.int .u16 455)], .agg [.lit (.int .u16 458), .lit (.int .u16 459)], .agg [.lit (.int .u16 459), .lit (.int .u16 460)], .agg [.lit (.int .u16 460), .lit (.int .u16 458)], .agg [.lit (.int .u16 497), .lit (.int .u16 498)], .agg [.lit (.int .u16 498), .lit (.int .u16 499)], .agg [.lit (.int .u16 499), .lit (.int .u16 497)], .agg [.lit (.int .u16 837), .lit (.int .u16 921)], .agg [.lit (.int .u16 912), .lit (.int .u16 8147)], .agg [.lit (.int .u16 914), .lit (.int .u16 946)], .agg [.lit (.int .u16 917), .lit (.int .u16 949)], .agg [.lit (.int .u16 920), .lit (.int .u16 952)], .agg [.lit (.int .u16 921), .lit (.int .u16 953)], .agg [.lit (.int .u16 922), .lit (.int .u16 954)], .agg [.lit (.int .u16 924), .lit (.int .u16 956)], .agg [.lit (.int .u16 928), .lit (.int .u16 960)], .agg [.lit (.int .u16 929), .lit (.int .u16 961)], .agg [.lit (.int .u16 931), .lit (.int .u16 962)], .agg [.lit (.int .u16 934), .lit (.int .u16 966)], .agg [.lit (.int .u16 937), .lit (.int .u16 969)], .agg [.lit (.int .u16 944), .lit (.int .u16 8163)], .agg [.lit (.int .u16 946), .lit (.int .u16 976)], .agg [.lit (.int .u16 949), .lit (.int .u16 1013)], .agg [.lit (.int .u16 952), .lit (.int .u16 977)], .agg [.lit (.int .u16 953), .lit (.int .u16 8126)], .agg [.lit (.int .u16 954), .lit (.int .u16 1008)], .agg [.lit (.int .u16 956), .lit (.int .u16 181)], .agg [.lit (.int .u16 960), .lit (.int .u16 982)], .agg [.lit (.int .u16 961), .lit (.int .u16 1009)], .agg [.lit (.int .u16 962), .lit (.int .u16 963)], .agg [.lit (.int .u16 963), .lit (.int .u16 931)], .agg [.lit (.int .u16 966), .lit (.int .u16 981)], .agg [.lit (.int .u16 969), .lit (.int .u16 8486)], .agg [.lit (.int .u16 976), .lit (.int .u16 914)], .agg [.lit (.int .u16 977), .lit (.int .u16 1012)], .agg [.lit (.int .u16 981), .lit (.int .u16 934)], .agg [.lit (.int .u16 982), .lit (.int .u16 928)], .agg [.lit (.int .u16 1008), .lit (.int .u16 922)], .agg [.lit (.int .u16 1009), .lit (.int .u16 929)], .agg [.lit (.int .u16 1012), .lit (.int .u16 920)], .agg [.lit (.int .u16 1013), .lit (.int .u16 917)], .agg [.lit (.int .u16 1042), .lit (.int .u16 1074)], .agg [.lit (.int .u16 1044), .lit (.int .u16 1076)], .agg [.lit (.int .u16 1054), .lit (.int .u16 1086)], .agg [.lit (.int .u16 1057), .lit (.int .u16 1089)], .agg [.lit (.int .u16 1058), .lit (.int .u16 1090)], .agg [.lit (.int .u16 1066), .lit (.int .u16 1098)], .agg [.lit (.int .u16 1074), .lit (.int .u16 7296)], .agg [.lit (.int .u16 1076), .lit (.int .u16 7297)], .agg [.lit (.int .u16 1086), .lit (.int .u16 7298)], .agg [.lit (.int .u16 1089), .lit (.int .u16 7299)], .agg [.lit (.int .u16 1090), .lit (.int .u16 7300)], .agg [.lit (.int .u16 1098), .lit (.int .u16 7302)], .agg [.lit (.int .u16 1122), .lit (.int .u16 1123)], .agg [.lit (.int .u16 1123), .lit (.int .u16 7303)], .agg [.lit (.int .u16 7296), .lit (.int .u16 1042)], .agg [.lit (.int .u16 7297), .lit (.int .u16 1044)], .agg [.lit (.int .u16 7298), .lit (.int .u16 1054)], .agg [.lit (.int .u16 7299), .lit (.int .u16 1057)], .agg [.lit (.int .u16 7300), .lit (.int .u16 7301)], .agg [.lit (.int .u16 7301), .lit (.int .u16 1058)], .agg [.lit (.int .u16 7302), .lit (.int .u16 1066)], .agg [.lit (.int .u16 7303), .lit (.int .u16 1122)], .agg [.lit (.int .u16 7304), .lit (.int .u16 42570)], .agg [.lit (.int .u16 7776), .lit (.int .u16 7777)], .agg [.lit (.int .u16 7777), .lit (.int .u16 7835)], .agg [.lit (.int .u16 7835), .lit (.int .u16 7776)], .agg [.lit (.int .u16 7838), .lit (.int .u16 223)], .agg [.lit (.int .u16 8126), .lit (.int .u16 837)], .agg [.lit (.int .u16 8147), .lit (.int .u16 912)], .agg [.lit (.int .u16 8163), .lit (.int .u16 944)], .agg [.lit (.int .u16 8486), .lit (.int .u16 937)], .agg [.lit (.int .u16 8490), .lit (.int .u16 75)], .agg [.lit (.int .u16 8491), .lit (.int .u16 197)], .agg [.lit (.int .u16 42570), .lit (.int .u16 42571)], .agg [.lit (.int .u16 42571), .lit (.int .u16 7304)], .agg [.lit (.int .u16 64261), .lit (.int .u16 64262)], .agg [.lit (.int .u16 64262), .lit (.int .u16 64261)]] []
/-- One of Go's own tables, pinned by name: the form's constant. -/
def laid_unicode_CaseRanges : DataW Unit := Go.Pinned.caseRanges
/-- One of Go's own tables, pinned by name: the form's constant. -/
def laid_unicode_utf8_first : DataW Unit := Go.Pinned.utf8First
def laid_narthex_chars_pubidRuns {H : Type} : DataW H := .agg [.agg [.lit (.int .i64 10), .lit (.int .i64 10)], .agg [.lit (.int .i64 13), .lit (.int .i64 13)], .agg [.lit (.int .i64 32), .lit (.int .i64 33)], .agg [.lit (.int .i64 35), .lit (.int .i64 37)], .agg [.lit (.int .i64 39), .lit (.int .i64 59)], .agg [.lit (.int .i64 61), .lit (.int .i64 61)], .agg [.lit (.int .i64 63), .lit (.int .i64 90)], .agg [.lit (.int .i64 95), .lit (.int .i64 95)], .agg [.lit (.int .i64 97), .lit (.int .i64 122)]]
def laid_math_bits_deBruijn32tab {H : Type} : DataW H := .agg [.lit (.int .u8 0), .lit (.int .u8 1), .lit (.int .u8 28), .lit (.int .u8 2), .lit (.int .u8 29), .lit (.int .u8 14), .lit (.int .u8 24), .lit (.int .u8 3), .lit (.int .u8 30), .lit (.int .u8 22), .lit (.int .u8 20), .lit (.int .u8 15), .lit (.int .u8 25), .lit (.int .u8 17), .lit (.int .u8 4), .lit (.int .u8 8), .lit (.int .u8 31), .lit (.int .u8 27), .lit (.int .u8 13), .lit (.int .u8 23), .lit (.int .u8 21), .lit (.int .u8 19), .lit (.int .u8 16), .lit (.int .u8 7), .lit (.int .u8 26), .lit (.int .u8 12), .lit (.int .u8 18), .lit (.int .u8 6), .lit (.int .u8 11), .lit (.int .u8 5), .lit (.int .u8 10), .lit (.int .u8 9)]
def laid_math_bits_deBruijn64tab {H : Type} : DataW H := .agg [.lit (.int .u8 0), .lit (.int .u8 1), .lit (.int .u8 56), .lit (.int .u8 2), .lit (.int .u8 57), .lit (.int .u8 49), .lit (.int .u8 28), .lit (.int .u8 3), .lit (.int .u8 61), .lit (.int .u8 58), .lit (.int .u8 42), .lit (.int .u8 50), .lit (.int .u8 38), .lit (.int .u8 29), .lit (.int .u8 17), .lit (.int .u8 4), .lit (.int .u8 62), .lit (.int .u8 47), .lit (.int .u8 59), .lit (.int .u8 36), .lit (.int .u8 45), .lit (.int .u8 43), .lit (.int .u8 51), .lit (.int .u8 22), .lit (.int .u8 53), .lit (.int .u8 39), .lit (.int .u8 33), .lit (.int .u8 30), .lit (.int .u8 24), .lit (.int .u8 18), .lit (.int .u8 12), .lit (.int .u8 5), .lit (.int .u8 63), .lit (.int .u8 55), .lit (.int .u8 48), .lit (.int .u8 27), .lit (.int .u8 60), .lit (.int .u8 41), .lit (.int .u8 37), .lit (.int .u8 16), .lit (.int .u8 46), .lit (.int .u8 35), .lit (.int .u8 44), .lit (.int .u8 21), .lit (.int .u8 52), .lit (.int .u8 32), .lit (.int .u8 23), .lit (.int .u8 11), .lit (.int .u8 54), .lit (.int .u8 26), .lit (.int .u8 40), .lit (.int .u8 15), .lit (.int .u8 34), .lit (.int .u8 20), .lit (.int .u8 31), .lit (.int .u8 10), .lit (.int .u8 25), .lit (.int .u8 14), .lit (.int .u8 19), .lit (.int .u8 9), .lit (.int .u8 13), .lit (.int .u8 8), .lit (.int .u8 7), .lit (.int .u8 6)]
def laid_internal_strconv_uint64pow10 {H : Type} : DataW H := .agg [.lit (.int .u64 1), .lit (.int .u64 10), .lit (.int .u64 100), .lit (.int .u64 1000), .lit (.int .u64 10000), .lit (.int .u64 100000), .lit (.int .u64 1000000), .lit (.int .u64 10000000), .lit (.int .u64 100000000), .lit (.int .u64 1000000000), .lit (.int .u64 10000000000), .lit (.int .u64 100000000000), .lit (.int .u64 1000000000000), .lit (.int .u64 10000000000000), .lit (.int .u64 100000000000000), .lit (.int .u64 1000000000000000), .lit (.int .u64 10000000000000000), .lit (.int .u64 100000000000000000), .lit (.int .u64 1000000000000000000), .lit (.int .u64 10000000000000000000)]

/-- 'narthexlaw10.TagPuts': WHATEVER THE INPUT: true; the input reads as it did. -/
def tagPutsSpec : ChangeSpec := { name := "tagPuts", fn := fun _ => fun
  | [d] => { results := [.lit (.bool true)], args := [d] }
  | _ => none }
def tagPutsRow : OpenClaim := { program := "ytdmfladcldkmeaadoor", sum := "85ddd53c2013c52d8c6113bc8d61b2c0644c1669a63a1f03504a303484336dea", func := "narthex/narthexlaw10.TagPuts", spec := "tagPuts", inPlace := ["internal/bytealg.IndexByteString", "internal/bytealg.IndexByte", "internal/bytealg.IndexString", "internal/abi.NoEscape"], unfollowed := true, recurses := true, named := ["narthex/chars.startRuns", "narthex/chars.followRuns", "narthex/chars.charRuns", "internal/bytealg.MaxLen"], apart := false, laid := [("narthex/chars.charRuns", laid_narthex_chars_charRuns), ("narthex/chars.startRuns", laid_narthex_chars_startRuns), ("narthex/chars.followRuns", laid_narthex_chars_followRuns)] }
def TagPutsSaid : Prop := tagPutsRow.holds Tryd.pinned (OpenSpec.ofChange tagPutsSpec)

/-- ITS FALSE NEIGHBOUR: 'it returns false'. Refute it at one input. -/
def tagPutsWrong : ChangeSpec := { name := "tagPuts", fn := fun _ => fun
  | [d] => { results := [.lit (.bool false)], args := [d] }
  | _ => none }
def TagPutsWrongFalsely : Prop := tagPutsRow.holds Tryd.pinned (OpenSpec.ofChange tagPutsWrong)

/-- 'narthexlaw10.TagAgain': WHATEVER THE INPUT: true; the input reads as it did. -/
def tagAgainSpec : ChangeSpec := { name := "tagAgain", fn := fun _ => fun
  | [d] => { results := [.lit (.bool true)], args := [d] }
  | _ => none }
def tagAgainRow : OpenClaim := { program := "ytdmfladcldkmeaadoor", sum := "85ddd53c2013c52d8c6113bc8d61b2c0644c1669a63a1f03504a303484336dea", func := "narthex/narthexlaw10.TagAgain", spec := "tagAgain", inPlace := ["internal/bytealg.IndexByteString", "internal/bytealg.IndexByte", "internal/bytealg.IndexString", "internal/abi.NoEscape"], unfollowed := true, recurses := true, named := ["narthex/chars.startRuns", "narthex/chars.followRuns", "narthex/chars.charRuns", "internal/bytealg.MaxLen"], apart := false, laid := [("narthex/chars.charRuns", laid_narthex_chars_charRuns), ("narthex/chars.startRuns", laid_narthex_chars_startRuns), ("narthex/chars.followRuns", laid_narthex_chars_followRuns)] }
def TagAgainSaid : Prop := tagAgainRow.holds Tryd.pinned (OpenSpec.ofChange tagAgainSpec)

/-- ITS FALSE NEIGHBOUR: 'it returns false'. Refute it at one input. -/
def tagAgainWrong : ChangeSpec := { name := "tagAgain", fn := fun _ => fun
  | [d] => { results := [.lit (.bool false)], args := [d] }
  | _ => none }
def TagAgainWrongFalsely : Prop := tagAgainRow.holds Tryd.pinned (OpenSpec.ofChange tagAgainWrong)

/-- 'narthexlaw09.XdeclReads': WHATEVER THE INPUT: true; the input reads as it did. -/
def xdeclReadsSpec : ChangeSpec := { name := "xdeclReads", fn := fun _ => fun
  | [d1, d2] => { results := [.lit (.bool true)], args := [d1, d2] }
  | _ => none }
def xdeclReadsRow : OpenClaim := { program := "ytdmfladcldkmeaadoor", sum := "85ddd53c2013c52d8c6113bc8d61b2c0644c1669a63a1f03504a303484336dea", func := "narthex/narthexlaw09.XdeclReads", spec := "xdeclReads", inPlace := ["internal/bytealg.IndexByte"], unfollowed := true, recurses := true, named := ["unicode/utf8.first", "unicode/utf8.acceptRanges", "unicode.asciiFold", "unicode.caseOrbit", "unicode.CaseRanges"], apart := false, laid := [("unicode/utf8.acceptRanges", laid_unicode_utf8_acceptRanges), ("unicode.asciiFold", laid_unicode_asciiFold), ("unicode.caseOrbit", laid_unicode_caseOrbit), ("unicode.CaseRanges", laid_unicode_CaseRanges), ("unicode/utf8.first", laid_unicode_utf8_first)] }
def XdeclReadsSaid : Prop := xdeclReadsRow.holds Tryd.pinned (OpenSpec.ofChange xdeclReadsSpec)

/-- ITS FALSE NEIGHBOUR: 'it returns false'. Refute it at one input. -/
def xdeclReadsWrong : ChangeSpec := { name := "xdeclReads", fn := fun _ => fun
  | [d1, d2] => { results := [.lit (.bool false)], args := [d1, d2] }
  | _ => none }
def XdeclReadsWrongFalsely : Prop := xdeclReadsRow.holds Tryd.pinned (OpenSpec.ofChange xdeclReadsWrong)

/-- 'narthexlaw09.XdeclPuts': WHATEVER THE INPUT: true; the input reads as it did. -/
def xdeclPutsSpec : ChangeSpec := { name := "xdeclPuts", fn := fun _ => fun
  | [d] => { results := [.lit (.bool true)], args := [d] }
  | _ => none }
def xdeclPutsRow : OpenClaim := { program := "ytdmfladcldkmeaadoor", sum := "85ddd53c2013c52d8c6113bc8d61b2c0644c1669a63a1f03504a303484336dea", func := "narthex/narthexlaw09.XdeclPuts", spec := "xdeclPuts", inPlace := ["internal/bytealg.IndexByte"], unfollowed := true, recurses := true, named := ["unicode/utf8.first", "unicode/utf8.acceptRanges", "unicode.asciiFold", "unicode.caseOrbit", "unicode.CaseRanges"], apart := false, laid := [("unicode/utf8.acceptRanges", laid_unicode_utf8_acceptRanges), ("unicode.asciiFold", laid_unicode_asciiFold), ("unicode.caseOrbit", laid_unicode_caseOrbit), ("unicode.CaseRanges", laid_unicode_CaseRanges), ("unicode/utf8.first", laid_unicode_utf8_first)] }
def XdeclPutsSaid : Prop := xdeclPutsRow.holds Tryd.pinned (OpenSpec.ofChange xdeclPutsSpec)

/-- ITS FALSE NEIGHBOUR: 'it returns false'. Refute it at one input. -/
def xdeclPutsWrong : ChangeSpec := { name := "xdeclPuts", fn := fun _ => fun
  | [d] => { results := [.lit (.bool false)], args := [d] }
  | _ => none }
def XdeclPutsWrongFalsely : Prop := xdeclPutsRow.holds Tryd.pinned (OpenSpec.ofChange xdeclPutsWrong)

/-- 'narthexlaw09.XdeclBlanks': WHATEVER THE INPUT: true; the input reads as it did. -/
def xdeclBlanksSpec : ChangeSpec := { name := "xdeclBlanks", fn := fun _ => fun
  | [d1, d2] => { results := [.lit (.bool true)], args := [d1, d2] }
  | _ => none }
def xdeclBlanksRow : OpenClaim := { program := "ytdmfladcldkmeaadoor", sum := "85ddd53c2013c52d8c6113bc8d61b2c0644c1669a63a1f03504a303484336dea", func := "narthex/narthexlaw09.XdeclBlanks", spec := "xdeclBlanks", inPlace := ["internal/bytealg.IndexByte"], unfollowed := true, recurses := true, named := ["unicode/utf8.first", "unicode/utf8.acceptRanges", "unicode.asciiFold", "unicode.caseOrbit", "unicode.CaseRanges"], apart := false, laid := [("unicode/utf8.acceptRanges", laid_unicode_utf8_acceptRanges), ("unicode.asciiFold", laid_unicode_asciiFold), ("unicode.caseOrbit", laid_unicode_caseOrbit), ("unicode.CaseRanges", laid_unicode_CaseRanges), ("unicode/utf8.first", laid_unicode_utf8_first)] }
def XdeclBlanksSaid : Prop := xdeclBlanksRow.holds Tryd.pinned (OpenSpec.ofChange xdeclBlanksSpec)

/-- ITS FALSE NEIGHBOUR: 'it returns false'. Refute it at one input. -/
def xdeclBlanksWrong : ChangeSpec := { name := "xdeclBlanks", fn := fun _ => fun
  | [d1, d2] => { results := [.lit (.bool false)], args := [d1, d2] }
  | _ => none }
def XdeclBlanksWrongFalsely : Prop := xdeclBlanksRow.holds Tryd.pinned (OpenSpec.ofChange xdeclBlanksWrong)

/-- 'narthexlaw13.ExtidHeads': WHATEVER THE INPUT: true; the input reads as it did. -/
def extidHeadsSpec : ChangeSpec := { name := "extidHeads", fn := fun _ => fun
  | [d1, d2] => { results := [.lit (.bool true)], args := [d1, d2] }
  | _ => none }
def extidHeadsRow : OpenClaim := { program := "ytdmfladcldkmeaadoor", sum := "85ddd53c2013c52d8c6113bc8d61b2c0644c1669a63a1f03504a303484336dea", func := "narthex/narthexlaw13.ExtidHeads", spec := "extidHeads", inPlace := ["internal/bytealg.IndexByte"], unfollowed := true, recurses := true, named := ["narthex/chars.pubidRuns", "narthex/chars.startRuns", "narthex/chars.followRuns"], apart := false, laid := [("narthex/chars.startRuns", laid_narthex_chars_startRuns), ("narthex/chars.followRuns", laid_narthex_chars_followRuns), ("narthex/chars.pubidRuns", laid_narthex_chars_pubidRuns)] }
def ExtidHeadsSaid : Prop := extidHeadsRow.holds Tryd.pinned (OpenSpec.ofChange extidHeadsSpec)

/-- ITS FALSE NEIGHBOUR: 'it returns false'. Refute it at one input. -/
def extidHeadsWrong : ChangeSpec := { name := "extidHeads", fn := fun _ => fun
  | [d1, d2] => { results := [.lit (.bool false)], args := [d1, d2] }
  | _ => none }
def ExtidHeadsWrongFalsely : Prop := extidHeadsRow.holds Tryd.pinned (OpenSpec.ofChange extidHeadsWrong)

/-- 'narthexlaw13.ExtidPuts': WHATEVER THE INPUT: true; the input reads as it did. -/
def extidPutsSpec : ChangeSpec := { name := "extidPuts", fn := fun _ => fun
  | [d] => { results := [.lit (.bool true)], args := [d] }
  | _ => none }
def extidPutsRow : OpenClaim := { program := "ytdmfladcldkmeaadoor", sum := "85ddd53c2013c52d8c6113bc8d61b2c0644c1669a63a1f03504a303484336dea", func := "narthex/narthexlaw13.ExtidPuts", spec := "extidPuts", inPlace := ["internal/bytealg.IndexByte", "internal/bytealg.IndexByteString", "internal/bytealg.IndexString"], unfollowed := true, recurses := true, named := ["narthex/chars.pubidRuns", "narthex/chars.startRuns", "narthex/chars.followRuns", "internal/bytealg.MaxLen"], apart := false, laid := [("narthex/chars.startRuns", laid_narthex_chars_startRuns), ("narthex/chars.followRuns", laid_narthex_chars_followRuns), ("narthex/chars.pubidRuns", laid_narthex_chars_pubidRuns)] }
def ExtidPutsSaid : Prop := extidPutsRow.holds Tryd.pinned (OpenSpec.ofChange extidPutsSpec)

/-- ITS FALSE NEIGHBOUR: 'it returns false'. Refute it at one input. -/
def extidPutsWrong : ChangeSpec := { name := "extidPuts", fn := fun _ => fun
  | [d] => { results := [.lit (.bool false)], args := [d] }
  | _ => none }
def ExtidPutsWrongFalsely : Prop := extidPutsRow.holds Tryd.pinned (OpenSpec.ofChange extidPutsWrong)

/-- 'narthexlaw14.EvalueTexts': WHATEVER THE INPUT: true; the input reads as it did. -/
def evalueTextsSpec : ChangeSpec := { name := "evalueTexts", fn := fun _ => fun
  | [d] => { results := [.lit (.bool true)], args := [d] }
  | _ => none }
def evalueTextsRow : OpenClaim := { program := "ytdmfladcldkmeaadoor", sum := "85ddd53c2013c52d8c6113bc8d61b2c0644c1669a63a1f03504a303484336dea", func := "narthex/narthexlaw14.EvalueTexts", spec := "evalueTexts", inPlace := ["internal/bytealg.IndexByteString", "internal/bytealg.IndexString", "internal/bytealg.IndexByte", "internal/abi.NoEscape"], unfollowed := true, recurses := true, named := ["internal/bytealg.MaxLen", "narthex/chars.charRuns", "narthex/chars.startRuns", "narthex/chars.followRuns", "internal/strconv.uint64pow10", "math/bits.deBruijn32tab", "math/bits.deBruijn64tab"], apart := false, laid := [("math/bits.deBruijn32tab", laid_math_bits_deBruijn32tab), ("math/bits.deBruijn64tab", laid_math_bits_deBruijn64tab), ("internal/strconv.uint64pow10", laid_internal_strconv_uint64pow10), ("narthex/chars.charRuns", laid_narthex_chars_charRuns), ("narthex/chars.startRuns", laid_narthex_chars_startRuns), ("narthex/chars.followRuns", laid_narthex_chars_followRuns)] }
def EvalueTextsSaid : Prop := evalueTextsRow.holds Tryd.pinned (OpenSpec.ofChange evalueTextsSpec)

/-- ITS FALSE NEIGHBOUR: 'it returns false'. Refute it at one input. -/
def evalueTextsWrong : ChangeSpec := { name := "evalueTexts", fn := fun _ => fun
  | [d] => { results := [.lit (.bool false)], args := [d] }
  | _ => none }
def EvalueTextsWrongFalsely : Prop := evalueTextsRow.holds Tryd.pinned (OpenSpec.ofChange evalueTextsWrong)

/-- 'narthexlaw14.EvaluePuts': WHATEVER THE INPUT: true; the input reads as it did. -/
def evaluePutsSpec : ChangeSpec := { name := "evaluePuts", fn := fun _ => fun
  | [d] => { results := [.lit (.bool true)], args := [d] }
  | _ => none }
def evaluePutsRow : OpenClaim := { program := "ytdmfladcldkmeaadoor", sum := "85ddd53c2013c52d8c6113bc8d61b2c0644c1669a63a1f03504a303484336dea", func := "narthex/narthexlaw14.EvaluePuts", spec := "evaluePuts", inPlace := ["internal/bytealg.IndexByteString", "internal/bytealg.IndexString", "internal/bytealg.IndexByte", "internal/abi.NoEscape"], unfollowed := true, recurses := true, named := ["internal/bytealg.MaxLen", "narthex/chars.charRuns", "narthex/chars.startRuns", "narthex/chars.followRuns", "internal/strconv.uint64pow10", "math/bits.deBruijn32tab", "math/bits.deBruijn64tab"], apart := false, laid := [("math/bits.deBruijn32tab", laid_math_bits_deBruijn32tab), ("math/bits.deBruijn64tab", laid_math_bits_deBruijn64tab), ("internal/strconv.uint64pow10", laid_internal_strconv_uint64pow10), ("narthex/chars.charRuns", laid_narthex_chars_charRuns), ("narthex/chars.startRuns", laid_narthex_chars_startRuns), ("narthex/chars.followRuns", laid_narthex_chars_followRuns)] }
def EvaluePutsSaid : Prop := evaluePutsRow.holds Tryd.pinned (OpenSpec.ofChange evaluePutsSpec)

/-- ITS FALSE NEIGHBOUR: 'it returns false'. Refute it at one input. -/
def evaluePutsWrong : ChangeSpec := { name := "evaluePuts", fn := fun _ => fun
  | [d] => { results := [.lit (.bool false)], args := [d] }
  | _ => none }
def EvaluePutsWrongFalsely : Prop := evaluePutsRow.holds Tryd.pinned (OpenSpec.ofChange evaluePutsWrong)

/-- 'narthexlaw14.EvalueParts': WHATEVER THE INPUT: true; the input reads as it did. -/
def evaluePartsSpec : ChangeSpec := { name := "evalueParts", fn := fun _ => fun
  | [d1, d2] => { results := [.lit (.bool true)], args := [d1, d2] }
  | _ => none }
def evaluePartsRow : OpenClaim := { program := "ytdmfladcldkmeaadoor", sum := "85ddd53c2013c52d8c6113bc8d61b2c0644c1669a63a1f03504a303484336dea", func := "narthex/narthexlaw14.EvalueParts", spec := "evalueParts", inPlace := ["internal/bytealg.IndexByteString", "internal/bytealg.IndexString", "internal/bytealg.IndexByte", "internal/abi.NoEscape"], unfollowed := true, recurses := true, named := ["internal/bytealg.MaxLen", "narthex/chars.charRuns", "narthex/chars.startRuns", "narthex/chars.followRuns", "internal/strconv.uint64pow10", "math/bits.deBruijn32tab", "math/bits.deBruijn64tab"], apart := false, laid := [("math/bits.deBruijn32tab", laid_math_bits_deBruijn32tab), ("math/bits.deBruijn64tab", laid_math_bits_deBruijn64tab), ("internal/strconv.uint64pow10", laid_internal_strconv_uint64pow10), ("narthex/chars.charRuns", laid_narthex_chars_charRuns), ("narthex/chars.startRuns", laid_narthex_chars_startRuns), ("narthex/chars.followRuns", laid_narthex_chars_followRuns)] }
def EvaluePartsSaid : Prop := evaluePartsRow.holds Tryd.pinned (OpenSpec.ofChange evaluePartsSpec)

/-- ITS FALSE NEIGHBOUR: 'it returns false'. Refute it at one input. -/
def evaluePartsWrong : ChangeSpec := { name := "evalueParts", fn := fun _ => fun
  | [d1, d2] => { results := [.lit (.bool false)], args := [d1, d2] }
  | _ => none }
def EvaluePartsWrongFalsely : Prop := evaluePartsRow.holds Tryd.pinned (OpenSpec.ofChange evaluePartsWrong)

/-- 'narthexlaw35.BindMay': WHATEVER THE INPUT: true; the input reads as it did. -/
def bindMaySpec : ChangeSpec := { name := "bindMay", fn := fun _ => fun
  | [d1, d2] => { results := [.lit (.bool true)], args := [d1, d2] }
  | _ => none }
def bindMayRow : OpenClaim := { program := "ytdmfladcldkmeaadoor", sum := "85ddd53c2013c52d8c6113bc8d61b2c0644c1669a63a1f03504a303484336dea", func := "narthex/narthexlaw35.BindMay", spec := "bindMay", inPlace := ["internal/bytealg.IndexByteString", "internal/bytealg.IndexString"], unfollowed := true, recurses := true, named := ["narthex/chars.startRuns", "narthex/chars.followRuns", "internal/bytealg.MaxLen"], apart := false, laid := [("narthex/chars.startRuns", laid_narthex_chars_startRuns), ("narthex/chars.followRuns", laid_narthex_chars_followRuns)] }
def BindMaySaid : Prop := bindMayRow.holds Tryd.pinned (OpenSpec.ofChange bindMaySpec)

/-- ITS FALSE NEIGHBOUR: 'it returns false'. Refute it at one input. -/
def bindMayWrong : ChangeSpec := { name := "bindMay", fn := fun _ => fun
  | [d1, d2] => { results := [.lit (.bool false)], args := [d1, d2] }
  | _ => none }
def BindMayWrongFalsely : Prop := bindMayRow.holds Tryd.pinned (OpenSpec.ofChange bindMayWrong)

/-- 'narthexlaw35.BindSplits': WHATEVER THE INPUT: true; the input reads as it did. -/
def bindSplitsSpec : ChangeSpec := { name := "bindSplits", fn := fun _ => fun
  | [d] => { results := [.lit (.bool true)], args := [d] }
  | _ => none }
def bindSplitsRow : OpenClaim := { program := "ytdmfladcldkmeaadoor", sum := "85ddd53c2013c52d8c6113bc8d61b2c0644c1669a63a1f03504a303484336dea", func := "narthex/narthexlaw35.BindSplits", spec := "bindSplits", inPlace := ["internal/bytealg.IndexByteString", "internal/bytealg.IndexString"], unfollowed := true, recurses := true, named := ["narthex/chars.startRuns", "narthex/chars.followRuns", "internal/bytealg.MaxLen"], apart := false, laid := [("narthex/chars.startRuns", laid_narthex_chars_startRuns), ("narthex/chars.followRuns", laid_narthex_chars_followRuns)] }
def BindSplitsSaid : Prop := bindSplitsRow.holds Tryd.pinned (OpenSpec.ofChange bindSplitsSpec)

/-- ITS FALSE NEIGHBOUR: 'it returns false'. Refute it at one input. -/
def bindSplitsWrong : ChangeSpec := { name := "bindSplits", fn := fun _ => fun
  | [d] => { results := [.lit (.bool false)], args := [d] }
  | _ => none }
def BindSplitsWrongFalsely : Prop := bindSplitsRow.holds Tryd.pinned (OpenSpec.ofChange bindSplitsWrong)

/- THE SECOND FORM. 'bulk': how many values and letters a reading holds, each counted each time it is reached (what is shared counts as often as it is met; a slice's spare places count too). A statement '..UptoSaid' is the law's where the arguments, and the package variables that the reading takes, are together of bulk at most 1048576: NARROWER than '..Said'. Prove '..Said' where nothing that the law and all that it calls make is longer than what came in: it says more and counts as full. Else prove '..UptoSaid'. A law counts once. -/
mutual
def uptoBulk {H : Type} : DataW H → Nat
  | .lit (.string bytes) => bytes.length + 1
  | .lit _ => 1
  | .nil => 1
  | .ptr d => uptoBulk d + 1
  | .slice elems spare => uptoBulkAll elems + uptoBulkAll spare + 1
  | .agg parts => uptoBulkAll parts + 1
  | .iface _ d => uptoBulk d + 1
  | .map entries => uptoBulkEntries entries + 1
  | .held _ => 1
def uptoBulkAll {H : Type} : List (DataW H) → Nat
  | [] => 0
  | d :: r => uptoBulk d + uptoBulkAll r
def uptoBulkEntries {H : Type} : List (Lit × DataW H) → Nat
  | [] => 0
  | x :: r => uptoBulkEntry x + uptoBulkEntries r
def uptoBulkEntry {H : Type} : Lit × DataW H → Nat
  | (.string bytes, d) => bytes.length + uptoBulk d + 1
  | (_, d) => uptoBulk d + 1
 end
def uptoSmall : (H : Type) → List (DataW H) → Bool := fun _ ds => decide (uptoBulkAll ds ≤ 1048576)
def OpenSpec.upto (s : _root_.Go.ChangeSpec) : _root_.Go.OpenSpec := { _root_.Go.OpenSpec.ofChange s with cond := some uptoSmall }

/-- 'narthexlaw10.TagPuts', WHERE WHAT IT READS IS OF BULK AT MOST 1048576: true; the input reads as it did. -/
def tagPutsUptoRow : OpenClaim := { program := "ytdmfladcldkmeaadoor", sum := "85ddd53c2013c52d8c6113bc8d61b2c0644c1669a63a1f03504a303484336dea", func := "narthex/narthexlaw10.TagPuts", spec := "tagPuts", inPlace := ["internal/bytealg.IndexByteString", "internal/bytealg.IndexByte", "internal/bytealg.IndexString", "internal/abi.NoEscape"], unfollowed := true, recurses := true, named := ["narthex/chars.startRuns", "narthex/chars.followRuns", "narthex/chars.charRuns", "internal/bytealg.MaxLen"], apart := false, laid := [("narthex/chars.charRuns", laid_narthex_chars_charRuns), ("narthex/chars.startRuns", laid_narthex_chars_startRuns), ("narthex/chars.followRuns", laid_narthex_chars_followRuns)], narrowed := true }
def TagPutsUptoSaid : Prop := tagPutsUptoRow.holds Tryd.pinned (OpenSpec.upto tagPutsSpec)

/-- 'narthexlaw10.TagAgain', WHERE WHAT IT READS IS OF BULK AT MOST 1048576: true; the input reads as it did. -/
def tagAgainUptoRow : OpenClaim := { program := "ytdmfladcldkmeaadoor", sum := "85ddd53c2013c52d8c6113bc8d61b2c0644c1669a63a1f03504a303484336dea", func := "narthex/narthexlaw10.TagAgain", spec := "tagAgain", inPlace := ["internal/bytealg.IndexByteString", "internal/bytealg.IndexByte", "internal/bytealg.IndexString", "internal/abi.NoEscape"], unfollowed := true, recurses := true, named := ["narthex/chars.startRuns", "narthex/chars.followRuns", "narthex/chars.charRuns", "internal/bytealg.MaxLen"], apart := false, laid := [("narthex/chars.charRuns", laid_narthex_chars_charRuns), ("narthex/chars.startRuns", laid_narthex_chars_startRuns), ("narthex/chars.followRuns", laid_narthex_chars_followRuns)], narrowed := true }
def TagAgainUptoSaid : Prop := tagAgainUptoRow.holds Tryd.pinned (OpenSpec.upto tagAgainSpec)

/-- 'narthexlaw09.XdeclReads', WHERE WHAT IT READS IS OF BULK AT MOST 1048576: true; the input reads as it did. -/
def xdeclReadsUptoRow : OpenClaim := { program := "ytdmfladcldkmeaadoor", sum := "85ddd53c2013c52d8c6113bc8d61b2c0644c1669a63a1f03504a303484336dea", func := "narthex/narthexlaw09.XdeclReads", spec := "xdeclReads", inPlace := ["internal/bytealg.IndexByte"], unfollowed := true, recurses := true, named := ["unicode/utf8.first", "unicode/utf8.acceptRanges", "unicode.asciiFold", "unicode.caseOrbit", "unicode.CaseRanges"], apart := false, laid := [("unicode/utf8.acceptRanges", laid_unicode_utf8_acceptRanges), ("unicode.asciiFold", laid_unicode_asciiFold), ("unicode.caseOrbit", laid_unicode_caseOrbit), ("unicode.CaseRanges", laid_unicode_CaseRanges), ("unicode/utf8.first", laid_unicode_utf8_first)], narrowed := true }
def XdeclReadsUptoSaid : Prop := xdeclReadsUptoRow.holds Tryd.pinned (OpenSpec.upto xdeclReadsSpec)

/-- 'narthexlaw09.XdeclPuts', WHERE WHAT IT READS IS OF BULK AT MOST 1048576: true; the input reads as it did. -/
def xdeclPutsUptoRow : OpenClaim := { program := "ytdmfladcldkmeaadoor", sum := "85ddd53c2013c52d8c6113bc8d61b2c0644c1669a63a1f03504a303484336dea", func := "narthex/narthexlaw09.XdeclPuts", spec := "xdeclPuts", inPlace := ["internal/bytealg.IndexByte"], unfollowed := true, recurses := true, named := ["unicode/utf8.first", "unicode/utf8.acceptRanges", "unicode.asciiFold", "unicode.caseOrbit", "unicode.CaseRanges"], apart := false, laid := [("unicode/utf8.acceptRanges", laid_unicode_utf8_acceptRanges), ("unicode.asciiFold", laid_unicode_asciiFold), ("unicode.caseOrbit", laid_unicode_caseOrbit), ("unicode.CaseRanges", laid_unicode_CaseRanges), ("unicode/utf8.first", laid_unicode_utf8_first)], narrowed := true }
def XdeclPutsUptoSaid : Prop := xdeclPutsUptoRow.holds Tryd.pinned (OpenSpec.upto xdeclPutsSpec)

/-- 'narthexlaw09.XdeclBlanks', WHERE WHAT IT READS IS OF BULK AT MOST 1048576: true; the input reads as it did. -/
def xdeclBlanksUptoRow : OpenClaim := { program := "ytdmfladcldkmeaadoor", sum := "85ddd53c2013c52d8c6113bc8d61b2c0644c1669a63a1f03504a303484336dea", func := "narthex/narthexlaw09.XdeclBlanks", spec := "xdeclBlanks", inPlace := ["internal/bytealg.IndexByte"], unfollowed := true, recurses := true, named := ["unicode/utf8.first", "unicode/utf8.acceptRanges", "unicode.asciiFold", "unicode.caseOrbit", "unicode.CaseRanges"], apart := false, laid := [("unicode/utf8.acceptRanges", laid_unicode_utf8_acceptRanges), ("unicode.asciiFold", laid_unicode_asciiFold), ("unicode.caseOrbit", laid_unicode_caseOrbit), ("unicode.CaseRanges", laid_unicode_CaseRanges), ("unicode/utf8.first", laid_unicode_utf8_first)], narrowed := true }
def XdeclBlanksUptoSaid : Prop := xdeclBlanksUptoRow.holds Tryd.pinned (OpenSpec.upto xdeclBlanksSpec)

/-- 'narthexlaw13.ExtidHeads', WHERE WHAT IT READS IS OF BULK AT MOST 1048576: true; the input reads as it did. -/
def extidHeadsUptoRow : OpenClaim := { program := "ytdmfladcldkmeaadoor", sum := "85ddd53c2013c52d8c6113bc8d61b2c0644c1669a63a1f03504a303484336dea", func := "narthex/narthexlaw13.ExtidHeads", spec := "extidHeads", inPlace := ["internal/bytealg.IndexByte"], unfollowed := true, recurses := true, named := ["narthex/chars.pubidRuns", "narthex/chars.startRuns", "narthex/chars.followRuns"], apart := false, laid := [("narthex/chars.startRuns", laid_narthex_chars_startRuns), ("narthex/chars.followRuns", laid_narthex_chars_followRuns), ("narthex/chars.pubidRuns", laid_narthex_chars_pubidRuns)], narrowed := true }
def ExtidHeadsUptoSaid : Prop := extidHeadsUptoRow.holds Tryd.pinned (OpenSpec.upto extidHeadsSpec)

/-- 'narthexlaw13.ExtidPuts', WHERE WHAT IT READS IS OF BULK AT MOST 1048576: true; the input reads as it did. -/
def extidPutsUptoRow : OpenClaim := { program := "ytdmfladcldkmeaadoor", sum := "85ddd53c2013c52d8c6113bc8d61b2c0644c1669a63a1f03504a303484336dea", func := "narthex/narthexlaw13.ExtidPuts", spec := "extidPuts", inPlace := ["internal/bytealg.IndexByte", "internal/bytealg.IndexByteString", "internal/bytealg.IndexString"], unfollowed := true, recurses := true, named := ["narthex/chars.pubidRuns", "narthex/chars.startRuns", "narthex/chars.followRuns", "internal/bytealg.MaxLen"], apart := false, laid := [("narthex/chars.startRuns", laid_narthex_chars_startRuns), ("narthex/chars.followRuns", laid_narthex_chars_followRuns), ("narthex/chars.pubidRuns", laid_narthex_chars_pubidRuns)], narrowed := true }
def ExtidPutsUptoSaid : Prop := extidPutsUptoRow.holds Tryd.pinned (OpenSpec.upto extidPutsSpec)

/-- 'narthexlaw14.EvalueTexts', WHERE WHAT IT READS IS OF BULK AT MOST 1048576: true; the input reads as it did. -/
def evalueTextsUptoRow : OpenClaim := { program := "ytdmfladcldkmeaadoor", sum := "85ddd53c2013c52d8c6113bc8d61b2c0644c1669a63a1f03504a303484336dea", func := "narthex/narthexlaw14.EvalueTexts", spec := "evalueTexts", inPlace := ["internal/bytealg.IndexByteString", "internal/bytealg.IndexString", "internal/bytealg.IndexByte", "internal/abi.NoEscape"], unfollowed := true, recurses := true, named := ["internal/bytealg.MaxLen", "narthex/chars.charRuns", "narthex/chars.startRuns", "narthex/chars.followRuns", "internal/strconv.uint64pow10", "math/bits.deBruijn32tab", "math/bits.deBruijn64tab"], apart := false, laid := [("math/bits.deBruijn32tab", laid_math_bits_deBruijn32tab), ("math/bits.deBruijn64tab", laid_math_bits_deBruijn64tab), ("internal/strconv.uint64pow10", laid_internal_strconv_uint64pow10), ("narthex/chars.charRuns", laid_narthex_chars_charRuns), ("narthex/chars.startRuns", laid_narthex_chars_startRuns), ("narthex/chars.followRuns", laid_narthex_chars_followRuns)], narrowed := true }
def EvalueTextsUptoSaid : Prop := evalueTextsUptoRow.holds Tryd.pinned (OpenSpec.upto evalueTextsSpec)

/-- 'narthexlaw14.EvaluePuts', WHERE WHAT IT READS IS OF BULK AT MOST 1048576: true; the input reads as it did. -/
def evaluePutsUptoRow : OpenClaim := { program := "ytdmfladcldkmeaadoor", sum := "85ddd53c2013c52d8c6113bc8d61b2c0644c1669a63a1f03504a303484336dea", func := "narthex/narthexlaw14.EvaluePuts", spec := "evaluePuts", inPlace := ["internal/bytealg.IndexByteString", "internal/bytealg.IndexString", "internal/bytealg.IndexByte", "internal/abi.NoEscape"], unfollowed := true, recurses := true, named := ["internal/bytealg.MaxLen", "narthex/chars.charRuns", "narthex/chars.startRuns", "narthex/chars.followRuns", "internal/strconv.uint64pow10", "math/bits.deBruijn32tab", "math/bits.deBruijn64tab"], apart := false, laid := [("math/bits.deBruijn32tab", laid_math_bits_deBruijn32tab), ("math/bits.deBruijn64tab", laid_math_bits_deBruijn64tab), ("internal/strconv.uint64pow10", laid_internal_strconv_uint64pow10), ("narthex/chars.charRuns", laid_narthex_chars_charRuns), ("narthex/chars.startRuns", laid_narthex_chars_startRuns), ("narthex/chars.followRuns", laid_narthex_chars_followRuns)], narrowed := true }
def EvaluePutsUptoSaid : Prop := evaluePutsUptoRow.holds Tryd.pinned (OpenSpec.upto evaluePutsSpec)

/-- 'narthexlaw14.EvalueParts', WHERE WHAT IT READS IS OF BULK AT MOST 1048576: true; the input reads as it did. -/
def evaluePartsUptoRow : OpenClaim := { program := "ytdmfladcldkmeaadoor", sum := "85ddd53c2013c52d8c6113bc8d61b2c0644c1669a63a1f03504a303484336dea", func := "narthex/narthexlaw14.EvalueParts", spec := "evalueParts", inPlace := ["internal/bytealg.IndexByteString", "internal/bytealg.IndexString", "internal/bytealg.IndexByte", "internal/abi.NoEscape"], unfollowed := true, recurses := true, named := ["internal/bytealg.MaxLen", "narthex/chars.charRuns", "narthex/chars.startRuns", "narthex/chars.followRuns", "internal/strconv.uint64pow10", "math/bits.deBruijn32tab", "math/bits.deBruijn64tab"], apart := false, laid := [("math/bits.deBruijn32tab", laid_math_bits_deBruijn32tab), ("math/bits.deBruijn64tab", laid_math_bits_deBruijn64tab), ("internal/strconv.uint64pow10", laid_internal_strconv_uint64pow10), ("narthex/chars.charRuns", laid_narthex_chars_charRuns), ("narthex/chars.startRuns", laid_narthex_chars_startRuns), ("narthex/chars.followRuns", laid_narthex_chars_followRuns)], narrowed := true }
def EvaluePartsUptoSaid : Prop := evaluePartsUptoRow.holds Tryd.pinned (OpenSpec.upto evaluePartsSpec)

/-- 'narthexlaw35.BindMay', WHERE WHAT IT READS IS OF BULK AT MOST 1048576: true; the input reads as it did. -/
def bindMayUptoRow : OpenClaim := { program := "ytdmfladcldkmeaadoor", sum := "85ddd53c2013c52d8c6113bc8d61b2c0644c1669a63a1f03504a303484336dea", func := "narthex/narthexlaw35.BindMay", spec := "bindMay", inPlace := ["internal/bytealg.IndexByteString", "internal/bytealg.IndexString"], unfollowed := true, recurses := true, named := ["narthex/chars.startRuns", "narthex/chars.followRuns", "internal/bytealg.MaxLen"], apart := false, laid := [("narthex/chars.startRuns", laid_narthex_chars_startRuns), ("narthex/chars.followRuns", laid_narthex_chars_followRuns)], narrowed := true }
def BindMayUptoSaid : Prop := bindMayUptoRow.holds Tryd.pinned (OpenSpec.upto bindMaySpec)

/-- 'narthexlaw35.BindSplits', WHERE WHAT IT READS IS OF BULK AT MOST 1048576: true; the input reads as it did. -/
def bindSplitsUptoRow : OpenClaim := { program := "ytdmfladcldkmeaadoor", sum := "85ddd53c2013c52d8c6113bc8d61b2c0644c1669a63a1f03504a303484336dea", func := "narthex/narthexlaw35.BindSplits", spec := "bindSplits", inPlace := ["internal/bytealg.IndexByteString", "internal/bytealg.IndexString"], unfollowed := true, recurses := true, named := ["narthex/chars.startRuns", "narthex/chars.followRuns", "internal/bytealg.MaxLen"], apart := false, laid := [("narthex/chars.startRuns", laid_narthex_chars_startRuns), ("narthex/chars.followRuns", laid_narthex_chars_followRuns)], narrowed := true }
def BindSplitsUptoSaid : Prop := bindSplitsUptoRow.holds Tryd.pinned (OpenSpec.upto bindSplitsSpec)

end Rows
end Go.Proofs.YtdmfladcldkmeaaDoor
