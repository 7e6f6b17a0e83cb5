/- First places, ahead and behind: the library's contracts, at rows that are seen. -/
import Derived.Test.YtggllkcoabeejaaDoorMib
import Derived.Test.YtggllkcoabeejaaDoorShl
namespace Go.Proofs.YtggllkcoabeejaaDoor
open Go.ChangeShapes Go.WideShapes Go.ChangeAt Go.RowKit
set_option linter.unusedVariables false
set_option maxRecDepth 100000

/-- The library's own number (whatever it is). -/
def MaxAt (w : World) : Prop := ∃ m : Int, w.cell? ⟨0, 0, none⟩ = some (.int .i64 m)
theorem MaxAt.below {w w' : World} (h : MaxAt w) (hb : Below w.heap.size w w') : MaxAt w' := by
  obtain ⟨m, h⟩ := h
  exact ⟨m, (hb.cell (World.block_lt_of_cell? _ _ h)).trans h⟩
theorem max_of_shape {w : World} (h : w.ShapedOpen Tryd.prog) : MaxAt w := Tryd.laysM185.s1_3 w h
def numB (l : List UInt8) : List Int := l.map fun b => (b.toNat : Int)
theorem numB_len (l : List UInt8) : (numB l).length = l.length := by simp [numB]
theorem numB_bytes (l : List UInt8) : Lib.bytesOf (numB l) = l := by
  unfold Lib.bytesOf numB
  rw [List.map_map]
  conv => rhs; rw [← List.map_id l]
  exact List.map_congr_left fun b _ => by simp
theorem numB_range (l : List UInt8) : ∀ x ∈ numB l, 0 ≤ x ∧ x < 256 := by
  intro x hx
  obtain ⟨b, _, rfl⟩ := List.mem_map.1 hx
  have := b.toNat_lt
  omega
theorem numB_cells {w : World} {ad : Addr} {l : List UInt8} (hs : Sees w (some ad) (vB l)) : ∀ i, i < l.length → w.cell? (ad.add i) = some (.int .u8 ((numB l).getD i 0)) := by
  intro i hi
  obtain ⟨ad', e, hc⟩ := hs (by intro h0; have := congrArg List.length h0; rw [vB_len] at this; simp at this; simp [this] at hi)
  obtain rfl : ad = ad' := by injection e
  refine hc i _ ?_
  simp [vB, numB, List.getElem?_eq_getElem hi, List.getD]
theorem numB_in {w : World} {A : Option Addr} {l : List UInt8} (hs : Sees w A (vB l)) : Lib.BytesIn w A l.length (numB l) := by
  rcases A with _ | ad
  · have h0 : l = [] := by
      cases l with
      | nil => rfl
      | cons x l => obtain ⟨_, e, _⟩ := hs (by simp [vB]); cases e
    subst h0
    exact Lib.BytesIn.nil _ _ _
  · exact Lib.BytesIn.of_cells (numB_cells hs)
theorem bIndex_any (l sub : List UInt8) (A B : Option Addr) (n c k d : Nat) (w : World) (hn : l.length = n) (hk : sub.length = k) (hnc : n ≤ c) (hs : Sees w A (vB l)) (hb : Sees w B (vB sub)) (h9 : n < 4294967281) (h2 : 2 ≤ k) (hk9 : k ≤ 1000) (hm : MaxAt w) :
    Calls Tryd.prog 39 #[.slice A n c, .slice B k d] w fun e w' => e = .returned (.int .i64 (Lib.index l sub)) ∧ Below w.heap.size w w' := by
  subst hn hk
  by_cases hlt : l.length < sub.length
  · rw [Lib.index_none (s := l) (sub := sub) (fun j hj => occ_short (by omega) (by rintro rfl; simp at h2))]
    exact (Tryd.bytes_Index_longer A B l.length c sub.length d w h2 hlt (by omega)).mono fun e w' ⟨h1, h3⟩ => ⟨h1, h3 ▸ Below.refl _ _⟩
  · obtain ⟨ad, rfl, _⟩ := hs.byte (k := 0) (by omega)
    obtain ⟨bd, rfl, _⟩ := hb.byte (k := 0) (by omega)
    obtain ⟨m, hm⟩ := hm
    refine (Tryd.bytes_Index_at ad bd l.length c sub.length d (numB l) (numB sub) m w (numB_len l) (numB_len sub) (numB_range l) (numB_range sub) (numB_cells hs) (numB_cells hb) hnc h9 (by omega) hm).mono fun e w' ⟨h1, q, h3⟩ => ⟨?_, ?_⟩
    · rw [h1, numB_bytes, numB_bytes]
    · rw [h3]; exact below_dr (Below.refl _ _) q
theorem bPrefix_any (l sub : List UInt8) (A B : Option Addr) (n c k d : Nat) (w : World) (hn : l.length = n) (hk : sub.length = k) (hnc : n ≤ c) (hs : Sees w A (vB l)) (hb : Sees w B (vB sub)) :
    Calls Tryd.prog 25 #[.slice A n c, .slice B k d] w fun e w' => e = .returned (.bool (Lib.occAt l sub 0)) ∧ w' = w := by
  subst hn hk
  refine (Tryd.bytes_HasPrefix_all A B l.length c sub.length d (numB l) (numB sub) w (numB_len l) (numB_len sub) hnc (numB_in hs) (numB_in hb)).mono fun e w' ⟨h1, h3⟩ => ⟨?_, h3⟩
  rw [h1, numB_bytes, numB_bytes]
  rfl
theorem sContains_any (l sub : List UInt8) (w : World) (h9 : l.length < 4294967281) (hm : MaxAt w) :
    Calls Tryd.prog 30 #[strV l, strV sub] w fun e w' => e = .returned (.bool (Lib.contains l sub)) ∧ w' = w := by
  obtain ⟨m, hm⟩ := hm
  exact Tryd.strings_Contains ⟨l.toArray⟩ ⟨sub.toArray⟩ m w (by simpa [ByteArray.size] using h9) hm
theorem sSuffix_any (l sub : List UInt8) (w : World) (h9 : l.length ≤ 9223372036854775807) :
    Calls Tryd.prog 31 #[strV l, strV sub] w fun e w' => e = .returned (.bool (Lib.hasSuffix l sub)) ∧ w' = w :=
  Tryd.strings_HasSuffix ⟨l.toArray⟩ ⟨sub.toArray⟩ w (by simpa [ByteArray.size] using h9)
end Go.Proofs.YtggllkcoabeejaaDoor
