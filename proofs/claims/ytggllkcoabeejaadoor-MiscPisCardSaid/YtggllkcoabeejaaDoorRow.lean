/- Bytes of a row that is read. -/
import Derived.Test.YtggllkcoabeejaaDoorUtfD
namespace Go.Proofs.YtggllkcoabeejaaDoor
open Go.ChangeShapes Go.WideShapes Go.ChangeAt Go.RowKit
set_option linter.unusedVariables false

theorem sees_row8 {w : World} {x : Addr} {len cap : Nat} {zs : List Int} (hz : zs.length = cap) (hl : len ≤ cap) (hc : ∀ i, i < zs.length → w.cell? (x.add i) = some (.int .u8 (zs.getD i 0)))
    (hw : ∀ n ∈ zs, (Lit.int .u8 n).wf = true) : ∃ l : List UInt8, l.length = len ∧ Sees w (some x) (vB l) := by
  obtain ⟨h1, h2⟩ := sees_row hz hl hc
  refine ⟨(zs.take len).map fun z => UInt8.ofNat z.toNat, by rw [List.length_map, h1], ?_⟩
  have e : vB ((zs.take len).map fun z => UInt8.ofNat z.toNat) = (zs.take len).map (Value.int .u8) := by
    unfold vB
    rw [List.map_map]
    apply List.map_congr_left
    intro z hz
    have := bounds_u8 (hw z (List.mem_of_mem_take hz))
    show Value.int .u8 _ = _
    rw [ofNat_toNat (by omega), Int.toNat_of_nonneg this.1]
  rw [e]
  exact h2

end Go.Proofs.YtggllkcoabeejaaDoor
