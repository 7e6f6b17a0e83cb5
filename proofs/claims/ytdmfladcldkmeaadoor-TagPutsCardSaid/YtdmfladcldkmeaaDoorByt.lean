/- Contracts of package bytes over any bytes: IndexByte, Count of one byte, LastIndexByte, Clone. -/
import Derived.Test.YtdmfladcldkmeaaDoorUtfP
import Derived.Lib.BytesEntry
import Derived.Laws.AppendOwn
import Derived.Laws.Externs
import Derived.OwnWalk
namespace Go.Proofs.YtdmfladcldkmeaaDoor
open Go.ChangeShapes Go.WideShapes Go.ChangeAt Go.RowKit
set_option linter.unusedVariables false

/-- Bytes as numbers. -/
def nB (l : List UInt8) : List Int := l.map fun c => (c.toNat : Int)
theorem nB_len (l : List UInt8) : (nB l).length = l.length := by unfold nB; simp
theorem bytesOf_nB (l : List UInt8) : Lib.bytesOf (nB l) = l := by
  unfold Lib.bytesOf nB
  rw [List.map_map]
  conv => rhs; rw [← List.map_id l]
  apply List.map_congr_left
  intro c _
  simp
theorem sees_nB {w : World} {ad : Addr} {l : List UInt8} (hs : Sees w (some ad) (vB l)) (hl : l ≠ []) : ∀ j x, (nB l)[j]? = some x → w.cell? (ad.add j) = some (.int .u8 x) := by
  intro j x hx
  obtain ⟨a2, e, hc⟩ := hs (by unfold vB; intro h; exact hl (by simpa using h))
  injection e with e
  subst e
  unfold nB at hx
  rw [List.getElem?_map] at hx
  cases hj : l[j]? with
  | none => rw [hj] at hx; cases hx
  | some c =>
    rw [hj] at hx
    injection hx with hx
    exact hc j _ (by unfold vB; rw [List.getElem?_map, hj, ← hx]; rfl)

theorem run_loadB (w : World) (A : Option Addr) (n c : Nat) (l : List UInt8) (hn : l.length = n) (hs : Sees w A (vB l)) :
    (Extern.Bytes.bytesOf (.slice A n c)).run Tryd.prog w = .ok ⟨l.toArray⟩ w := by
  cases A with
  | none =>
    have : l = [] := by
      cases l with
      | nil => rfl
      | cons x l => obtain ⟨_, e, _⟩ := hs (by simp [vB]); cases e
    subst this
    rfl
  | some ad =>
    by_cases hl : l = []
    · subst hl
      simp only [List.length_nil] at hn
      subst hn
      rfl
    · have := Lib.run_loadBytesX (P := Tryd.prog) w (nB l) ad .empty (sees_nB hs hl)
      rw [nB_len, hn, bytesOf_nB] at this
      have he : (⟨ByteArray.empty.data ++ l.toArray⟩ : ByteArray) = ⟨l.toArray⟩ := by
        apply ByteArray.ext
        show (#[] : Array UInt8) ++ l.toArray = l.toArray
        simp
      rw [he] at this
      exact this
theorem bytesOf_str (w : World) (s : ByteArray) : (Extern.Bytes.bytesOf (.string s)).run Tryd.prog w = .ok s w := rfl

theorem run_indexB (w : World) (A : Option Addr) (n c : Nat) (l : List UInt8) (cv : Int) (hn : l.length = n) (hs : Sees w A (vB l)) :
    (Extern.BytealgIndexByte.indexByte #[.slice A n c, .int .u8 cv]).run Tryd.prog w = .ok (.int .i64 (Lib.indexByte l cv.toNat.toUInt8)) w := by
  have hl := run_loadB w A n c l hn hs
  have h2 := Lib.run_indexByteString (P := Tryd.prog) ⟨l.toArray⟩ cv w
  change Sem.run Tryd.prog (do
    let b ← Extern.Bytes.bytesOf (.slice A n c)
    let c ← Extern.Bytes.asByte (.int .u8 cv)
    match (List.range b.size).find? fun i => b[i]! == c with
    | some i => pure (goInt i)
    | none => pure (goInt (-1))) w = _
  change Sem.run Tryd.prog (do
    let b ← Extern.Bytes.bytesOf (.string ⟨l.toArray⟩)
    let c ← Extern.Bytes.asByte (.int .u8 cv)
    match (List.range b.size).find? fun i => b[i]! == c with
    | some i => pure (goInt i)
    | none => pure (goInt (-1))) w = _ at h2
  simp only [Sem.run_bind, hl, bytesOf_str, Result.andThen] at h2 ⊢
  exact h2

set_option maxHeartbeats 1000000 in
set_option maxRecDepth 100000 in
theorem bIndex_any (w : World) (A : Option Addr) (n c : Nat) (l : List UInt8) (cv : Int) (hn : l.length = n) (hs : Sees w A (vB l)) :
    Calls Tryd.prog 138 #[.slice A n c, .int .u8 cv] w fun e w' => e = .returned (.int .i64 (Lib.indexByte l cv.toNat.toUInt8)) ∧ w = w' := by
  have H := Lib.hid (run_indexB w A n c l cv hn hs)
  clear hn hs
  go_enter Tryd.func138, Tryd.ntmps138
  go_wp2
  rw [run_callFunc_extern Tryd.func163 (by kernel_rfl) (by kernel_rfl) (by kernel_rfl) (e := Extern.BytealgIndexByte.indexByte) (by kernel_rfl), H.out]
  simp only [Result.andThen]
  rw [Oper.upon_value]
  go_wp2
  go_ret
  exact ⟨rfl, rfl⟩
end Go.Proofs.YtdmfladcldkmeaaDoor
