/-
  No cell of these rows narrows 'for every input' (looked for: loops, veiled, ifaces, maps, wideKeys, modest, calm, conditions, laid).
  DERIVED. THE GIVEN ROWS OF THIS SEAT. 9 by the template 'for every input the law returns true; each argument reads behind the call as it read before'; 0 by the template 'total and deterministic' (their statements: YtfppkjogdahnbaaTotals.lean).
  GIVEN WITH THE SEED: the statements are not yours to turn. If you find one false, say at which input.
  Laid BY PROGRAM, IN A SANDBOX (cutbox-rows.mjs): the forced cells as the released guide's own fill.sh prints them over the translation dcc87096f21fda96… (all of the seat's roots in one cut). By AI agents, Wed Nov 11 2026. No macro, syntax, notation, axiom, sorry.
-/
import Derived.Test.YtfppkjogdahnbaaChecked
import GoSem.Claim
import GoSem.ClaimJoined
import GoSem.ClaimMapViews
import Derived.JoinedTies
import Derived.KernelRfl
namespace Go.Proofs.Ytfppkjogdahnbaa
/- THE CELL 'sum', in the pinned program and in every row, IS THE sha256 OF THE DUMP (.gsa) THAT YtfppkjogdahnbaaProg.lean LOADS. Nothing in Lean hashes anything: it is a label: what it is worth is what the hold of that sum in a sandbox is worth. -/
noncomputable def Try.pinned : Pinned := { name := "ytfppkjogdahnbaa", sum := "dcc87096f21fda967e2b51a2f9d7f2f5244218b9f216e5ffebdcbe738e5e9ab9", checked := Try.checked }
namespace Rows
def none {H : Type} : Left H := { results := [], args := [] }

/-- 'narthexlaw01.SatTells': WHATEVER THE INPUT: true; the input reads as it did. -/
def satTellsSpec : ChangeSpec := { name := "satTells", fn := fun _ => fun
  | [d1, d2] => { results := [.lit (.bool true)], args := [d1, d2] }
  | _ => none }
def satTellsRow : OpenClaim := { program := "ytfppkjogdahnbaa", sum := "dcc87096f21fda967e2b51a2f9d7f2f5244218b9f216e5ffebdcbe738e5e9ab9", func := "narthex/narthexlaw01.SatTells", spec := "satTells", apart := false }
def SatTellsSaid : Prop := satTellsRow.holds Try.pinned (OpenSpec.ofChange satTellsSpec)

/-- ITS FALSE NEIGHBOUR: 'it returns false'. Refute it at one input. -/
def satTellsWrong : ChangeSpec := { name := "satTells", fn := fun _ => fun
  | [d1, d2] => { results := [.lit (.bool false)], args := [d1, d2] }
  | _ => none }
def SatTellsWrongFalsely : Prop := satTellsRow.holds Try.pinned (OpenSpec.ofChange satTellsWrong)

/-- 'narthexlaw01.SatMany': WHATEVER THE INPUT: true; the input reads as it did. -/
def satManySpec : ChangeSpec := { name := "satMany", fn := fun _ => fun
  | [d1, d2, d3] => { results := [.lit (.bool true)], args := [d1, d2, d3] }
  | _ => none }
def satManyRow : OpenClaim := { program := "ytfppkjogdahnbaa", sum := "dcc87096f21fda967e2b51a2f9d7f2f5244218b9f216e5ffebdcbe738e5e9ab9", func := "narthex/narthexlaw01.SatMany", spec := "satMany", apart := false }
def SatManySaid : Prop := satManyRow.holds Try.pinned (OpenSpec.ofChange satManySpec)

/-- ITS FALSE NEIGHBOUR: 'it returns false'. Refute it at one input. -/
def satManyWrong : ChangeSpec := { name := "satMany", fn := fun _ => fun
  | [d1, d2, d3] => { results := [.lit (.bool false)], args := [d1, d2, d3] }
  | _ => none }
def SatManyWrongFalsely : Prop := satManyRow.holds Try.pinned (OpenSpec.ofChange satManyWrong)

/-- 'narthexlaw01.SatOrder': WHATEVER THE INPUT: true; the input reads as it did. -/
def satOrderSpec : ChangeSpec := { name := "satOrder", fn := fun _ => fun
  | [d1, d2, d3] => { results := [.lit (.bool true)], args := [d1, d2, d3] }
  | _ => none }
def satOrderRow : OpenClaim := { program := "ytfppkjogdahnbaa", sum := "dcc87096f21fda967e2b51a2f9d7f2f5244218b9f216e5ffebdcbe738e5e9ab9", func := "narthex/narthexlaw01.SatOrder", spec := "satOrder", apart := false }
def SatOrderSaid : Prop := satOrderRow.holds Try.pinned (OpenSpec.ofChange satOrderSpec)

/-- ITS FALSE NEIGHBOUR: 'it returns false'. Refute it at one input. -/
def satOrderWrong : ChangeSpec := { name := "satOrder", fn := fun _ => fun
  | [d1, d2, d3] => { results := [.lit (.bool false)], args := [d1, d2, d3] }
  | _ => none }
def SatOrderWrongFalsely : Prop := satOrderRow.holds Try.pinned (OpenSpec.ofChange satOrderWrong)

/-- 'narthexlaw02.UtfWrites': WHATEVER THE INPUT: true; the input reads as it did. -/
def utfWritesSpec : ChangeSpec := { name := "utfWrites", fn := fun _ => fun
  | [d] => { results := [.lit (.bool true)], args := [d] }
  | _ => none }
def utfWritesRow : OpenClaim := { program := "ytfppkjogdahnbaa", sum := "dcc87096f21fda967e2b51a2f9d7f2f5244218b9f216e5ffebdcbe738e5e9ab9", func := "narthex/narthexlaw02.UtfWrites", spec := "utfWrites", unfollowed := true, recurses := true, apart := false }
def UtfWritesSaid : Prop := utfWritesRow.holds Try.pinned (OpenSpec.ofChange utfWritesSpec)

/-- ITS FALSE NEIGHBOUR: 'it returns false'. Refute it at one input. -/
def utfWritesWrong : ChangeSpec := { name := "utfWrites", fn := fun _ => fun
  | [d] => { results := [.lit (.bool false)], args := [d] }
  | _ => none }
def UtfWritesWrongFalsely : Prop := utfWritesRow.holds Try.pinned (OpenSpec.ofChange utfWritesWrong)

/-- 'narthexlaw02.UtfReads': WHATEVER THE INPUT: true; the input reads as it did. -/
def utfReadsSpec : ChangeSpec := { name := "utfReads", fn := fun _ => fun
  | [d1, d2] => { results := [.lit (.bool true)], args := [d1, d2] }
  | _ => none }
def utfReadsRow : OpenClaim := { program := "ytfppkjogdahnbaa", sum := "dcc87096f21fda967e2b51a2f9d7f2f5244218b9f216e5ffebdcbe738e5e9ab9", func := "narthex/narthexlaw02.UtfReads", spec := "utfReads", unfollowed := true, recurses := true, apart := false }
def UtfReadsSaid : Prop := utfReadsRow.holds Try.pinned (OpenSpec.ofChange utfReadsSpec)

/-- ITS FALSE NEIGHBOUR: 'it returns false'. Refute it at one input. -/
def utfReadsWrong : ChangeSpec := { name := "utfReads", fn := fun _ => fun
  | [d1, d2] => { results := [.lit (.bool false)], args := [d1, d2] }
  | _ => none }
def UtfReadsWrongFalsely : Prop := utfReadsRow.holds Try.pinned (OpenSpec.ofChange utfReadsWrong)

/-- 'narthexlaw02.UtfTexts': WHATEVER THE INPUT: true; the input reads as it did. -/
def utfTextsSpec : ChangeSpec := { name := "utfTexts", fn := fun _ => fun
  | [d1, d2] => { results := [.lit (.bool true)], args := [d1, d2] }
  | _ => none }
def utfTextsRow : OpenClaim := { program := "ytfppkjogdahnbaa", sum := "dcc87096f21fda967e2b51a2f9d7f2f5244218b9f216e5ffebdcbe738e5e9ab9", func := "narthex/narthexlaw02.UtfTexts", spec := "utfTexts", unfollowed := true, recurses := true, apart := false }
def UtfTextsSaid : Prop := utfTextsRow.holds Try.pinned (OpenSpec.ofChange utfTextsSpec)

/-- ITS FALSE NEIGHBOUR: 'it returns false'. Refute it at one input. -/
def utfTextsWrong : ChangeSpec := { name := "utfTexts", fn := fun _ => fun
  | [d1, d2] => { results := [.lit (.bool false)], args := [d1, d2] }
  | _ => none }
def UtfTextsWrongFalsely : Prop := utfTextsRow.holds Try.pinned (OpenSpec.ofChange utfTextsWrong)

/-- 'narthexlaw04.EolNorms': WHATEVER THE INPUT: true; the input reads as it did. -/
def eolNormsSpec : ChangeSpec := { name := "eolNorms", fn := fun _ => fun
  | [d] => { results := [.lit (.bool true)], args := [d] }
  | _ => none }
def eolNormsRow : OpenClaim := { program := "ytfppkjogdahnbaa", sum := "dcc87096f21fda967e2b51a2f9d7f2f5244218b9f216e5ffebdcbe738e5e9ab9", func := "narthex/narthexlaw04.EolNorms", spec := "eolNorms", inPlace := ["internal/bytealg.IndexByte", "internal/bytealg.Count", "internal/bytealg.Index"], named := ["internal/bytealg.MaxLen"], apart := false }
def EolNormsSaid : Prop := eolNormsRow.holds Try.pinned (OpenSpec.ofChange eolNormsSpec)

/-- ITS FALSE NEIGHBOUR: 'it returns false'. Refute it at one input. -/
def eolNormsWrong : ChangeSpec := { name := "eolNorms", fn := fun _ => fun
  | [d] => { results := [.lit (.bool false)], args := [d] }
  | _ => none }
def EolNormsWrongFalsely : Prop := eolNormsRow.holds Try.pinned (OpenSpec.ofChange eolNormsWrong)

/-- 'narthexlaw04.EolWheres': WHATEVER THE INPUT: true; the input reads as it did. -/
def eolWheresSpec : ChangeSpec := { name := "eolWheres", fn := fun _ => fun
  | [d1, d2] => { results := [.lit (.bool true)], args := [d1, d2] }
  | _ => none }
def eolWheresRow : OpenClaim := { program := "ytfppkjogdahnbaa", sum := "dcc87096f21fda967e2b51a2f9d7f2f5244218b9f216e5ffebdcbe738e5e9ab9", func := "narthex/narthexlaw04.EolWheres", spec := "eolWheres", inPlace := ["internal/bytealg.IndexByte", "internal/bytealg.Count", "internal/bytealg.Index"], named := ["internal/bytealg.MaxLen"], apart := false }
def EolWheresSaid : Prop := eolWheresRow.holds Try.pinned (OpenSpec.ofChange eolWheresSpec)

/-- ITS FALSE NEIGHBOUR: 'it returns false'. Refute it at one input. -/
def eolWheresWrong : ChangeSpec := { name := "eolWheres", fn := fun _ => fun
  | [d1, d2] => { results := [.lit (.bool false)], args := [d1, d2] }
  | _ => none }
def EolWheresWrongFalsely : Prop := eolWheresRow.holds Try.pinned (OpenSpec.ofChange eolWheresWrong)

/-- 'narthexlaw04.EolLines': WHATEVER THE INPUT: true; the input reads as it did. -/
def eolLinesSpec : ChangeSpec := { name := "eolLines", fn := fun _ => fun
  | [d1, d2] => { results := [.lit (.bool true)], args := [d1, d2] }
  | _ => none }
def eolLinesRow : OpenClaim := { program := "ytfppkjogdahnbaa", sum := "dcc87096f21fda967e2b51a2f9d7f2f5244218b9f216e5ffebdcbe738e5e9ab9", func := "narthex/narthexlaw04.EolLines", spec := "eolLines", inPlace := ["internal/bytealg.IndexByte", "internal/bytealg.Count", "internal/bytealg.Index"], named := ["internal/bytealg.MaxLen"], apart := false }
def EolLinesSaid : Prop := eolLinesRow.holds Try.pinned (OpenSpec.ofChange eolLinesSpec)

/-- ITS FALSE NEIGHBOUR: 'it returns false'. Refute it at one input. -/
def eolLinesWrong : ChangeSpec := { name := "eolLines", fn := fun _ => fun
  | [d1, d2] => { results := [.lit (.bool false)], args := [d1, d2] }
  | _ => none }
def EolLinesWrongFalsely : Prop := eolLinesRow.holds Try.pinned (OpenSpec.ofChange eolLinesWrong)

/- THE SECOND FORM. 'bulk': how many values and letters a reading holds, each counted each time it is reached (what is shared counts as often as it is met; a slice's spare places count too). A statement '..UptoSaid' is the law's where the arguments, and the package variables that the reading takes, are together of bulk at most 1048576: NARROWER than '..Said'. Prove '..Said' where nothing that the law and all that it calls make is longer than what came in: it says more and counts as full. Else prove '..UptoSaid'. A law counts once. -/
mutual
def uptoBulk {H : Type} : DataW H → Nat
  | .lit (.string bytes) => bytes.length + 1
  | .lit _ => 1
  | .nil => 1
  | .ptr d => uptoBulk d + 1
  | .slice elems spare => uptoBulkAll elems + uptoBulkAll spare + 1
  | .agg parts => uptoBulkAll parts + 1
  | .iface _ d => uptoBulk d + 1
  | .map entries => uptoBulkEntries entries + 1
  | .held _ => 1
def uptoBulkAll {H : Type} : List (DataW H) → Nat
  | [] => 0
  | d :: r => uptoBulk d + uptoBulkAll r
def uptoBulkEntries {H : Type} : List (Lit × DataW H) → Nat
  | [] => 0
  | x :: r => uptoBulkEntry x + uptoBulkEntries r
def uptoBulkEntry {H : Type} : Lit × DataW H → Nat
  | (.string bytes, d) => bytes.length + uptoBulk d + 1
  | (_, d) => uptoBulk d + 1
 end
def uptoSmall : (H : Type) → List (DataW H) → Bool := fun _ ds => decide (uptoBulkAll ds ≤ 1048576)
def OpenSpec.upto (s : _root_.Go.ChangeSpec) : _root_.Go.OpenSpec := { _root_.Go.OpenSpec.ofChange s with cond := some uptoSmall }

/-- 'narthexlaw01.SatTells', WHERE WHAT IT READS IS OF BULK AT MOST 1048576: true; the input reads as it did. -/
def satTellsUptoRow : OpenClaim := { program := "ytfppkjogdahnbaa", sum := "dcc87096f21fda967e2b51a2f9d7f2f5244218b9f216e5ffebdcbe738e5e9ab9", func := "narthex/narthexlaw01.SatTells", spec := "satTells", apart := false, narrowed := true }
def SatTellsUptoSaid : Prop := satTellsUptoRow.holds Try.pinned (OpenSpec.upto satTellsSpec)

/-- 'narthexlaw01.SatMany', WHERE WHAT IT READS IS OF BULK AT MOST 1048576: true; the input reads as it did. -/
def satManyUptoRow : OpenClaim := { program := "ytfppkjogdahnbaa", sum := "dcc87096f21fda967e2b51a2f9d7f2f5244218b9f216e5ffebdcbe738e5e9ab9", func := "narthex/narthexlaw01.SatMany", spec := "satMany", apart := false, narrowed := true }
def SatManyUptoSaid : Prop := satManyUptoRow.holds Try.pinned (OpenSpec.upto satManySpec)

/-- 'narthexlaw01.SatOrder', WHERE WHAT IT READS IS OF BULK AT MOST 1048576: true; the input reads as it did. -/
def satOrderUptoRow : OpenClaim := { program := "ytfppkjogdahnbaa", sum := "dcc87096f21fda967e2b51a2f9d7f2f5244218b9f216e5ffebdcbe738e5e9ab9", func := "narthex/narthexlaw01.SatOrder", spec := "satOrder", apart := false, narrowed := true }
def SatOrderUptoSaid : Prop := satOrderUptoRow.holds Try.pinned (OpenSpec.upto satOrderSpec)

/-- 'narthexlaw02.UtfWrites', WHERE WHAT IT READS IS OF BULK AT MOST 1048576: true; the input reads as it did. -/
def utfWritesUptoRow : OpenClaim := { program := "ytfppkjogdahnbaa", sum := "dcc87096f21fda967e2b51a2f9d7f2f5244218b9f216e5ffebdcbe738e5e9ab9", func := "narthex/narthexlaw02.UtfWrites", spec := "utfWrites", unfollowed := true, recurses := true, apart := false, narrowed := true }
def UtfWritesUptoSaid : Prop := utfWritesUptoRow.holds Try.pinned (OpenSpec.upto utfWritesSpec)

/-- 'narthexlaw02.UtfReads', WHERE WHAT IT READS IS OF BULK AT MOST 1048576: true; the input reads as it did. -/
def utfReadsUptoRow : OpenClaim := { program := "ytfppkjogdahnbaa", sum := "dcc87096f21fda967e2b51a2f9d7f2f5244218b9f216e5ffebdcbe738e5e9ab9", func := "narthex/narthexlaw02.UtfReads", spec := "utfReads", unfollowed := true, recurses := true, apart := false, narrowed := true }
def UtfReadsUptoSaid : Prop := utfReadsUptoRow.holds Try.pinned (OpenSpec.upto utfReadsSpec)

/-- 'narthexlaw02.UtfTexts', WHERE WHAT IT READS IS OF BULK AT MOST 1048576: true; the input reads as it did. -/
def utfTextsUptoRow : OpenClaim := { program := "ytfppkjogdahnbaa", sum := "dcc87096f21fda967e2b51a2f9d7f2f5244218b9f216e5ffebdcbe738e5e9ab9", func := "narthex/narthexlaw02.UtfTexts", spec := "utfTexts", unfollowed := true, recurses := true, apart := false, narrowed := true }
def UtfTextsUptoSaid : Prop := utfTextsUptoRow.holds Try.pinned (OpenSpec.upto utfTextsSpec)

/-- 'narthexlaw04.EolNorms', WHERE WHAT IT READS IS OF BULK AT MOST 1048576: true; the input reads as it did. -/
def eolNormsUptoRow : OpenClaim := { program := "ytfppkjogdahnbaa", sum := "dcc87096f21fda967e2b51a2f9d7f2f5244218b9f216e5ffebdcbe738e5e9ab9", func := "narthex/narthexlaw04.EolNorms", spec := "eolNorms", inPlace := ["internal/bytealg.IndexByte", "internal/bytealg.Count", "internal/bytealg.Index"], named := ["internal/bytealg.MaxLen"], apart := false, narrowed := true }
def EolNormsUptoSaid : Prop := eolNormsUptoRow.holds Try.pinned (OpenSpec.upto eolNormsSpec)

/-- 'narthexlaw04.EolWheres', WHERE WHAT IT READS IS OF BULK AT MOST 1048576: true; the input reads as it did. -/
def eolWheresUptoRow : OpenClaim := { program := "ytfppkjogdahnbaa", sum := "dcc87096f21fda967e2b51a2f9d7f2f5244218b9f216e5ffebdcbe738e5e9ab9", func := "narthex/narthexlaw04.EolWheres", spec := "eolWheres", inPlace := ["internal/bytealg.IndexByte", "internal/bytealg.Count", "internal/bytealg.Index"], named := ["internal/bytealg.MaxLen"], apart := false, narrowed := true }
def EolWheresUptoSaid : Prop := eolWheresUptoRow.holds Try.pinned (OpenSpec.upto eolWheresSpec)

/-- 'narthexlaw04.EolLines', WHERE WHAT IT READS IS OF BULK AT MOST 1048576: true; the input reads as it did. -/
def eolLinesUptoRow : OpenClaim := { program := "ytfppkjogdahnbaa", sum := "dcc87096f21fda967e2b51a2f9d7f2f5244218b9f216e5ffebdcbe738e5e9ab9", func := "narthex/narthexlaw04.EolLines", spec := "eolLines", inPlace := ["internal/bytealg.IndexByte", "internal/bytealg.Count", "internal/bytealg.Index"], named := ["internal/bytealg.MaxLen"], apart := false, narrowed := true }
def EolLinesUptoSaid : Prop := eolLinesUptoRow.holds Try.pinned (OpenSpec.upto eolLinesSpec)

end Rows
end Go.Proofs.Ytfppkjogdahnbaa
