/- Names: the page's example; the walk of NameReads. -/
import Derived.Test.YtncoldgkljnbeaaDoorNamj
import Derived.Lib.BufferRead
import Derived.Lib.SlBytesConst
namespace Go.Proofs.YtncoldgkljnbeaaDoor
open Go.ChangeShapes Go.WideShapes Go.ChangeAt Go.RowKit
set_option linter.unusedVariables false
set_option maxRecDepth 100000

theorem sees_lit (w : World) (l : List Value) (t : TypeId) (f : Nat × Nat) : Sees (w.alloc (.cells l.toArray t f)) (some ⟨w.heap.size, 0, none⟩) l := by
  intro _
  refine ⟨_, rfl, fun j u h => ?_⟩
  have e : (⟨w.heap.size, 0, none⟩ : Addr).add j = ⟨w.heap.size, j, none⟩ := by
    unfold Addr.add; split
    · next h0 => rw [h0]
    · simp
  have hh : (w.alloc (.cells l.toArray t f)).heap[w.heap.size]? = some (.cells l.toArray t f) := by
    show (w.heap.push _)[w.heap.size]? = _
    simp
  rw [e]
  unfold World.cell?
  rw [hh]
  simpa using h
theorem lv1 : readV [97, 98, 58, 99, 61, 49] 0 startN charN = .tuple #[.string ⟨#[97, 98, 58, 99]⟩, .int .i64 4, .int .i64 0] := by kernel_rfl
theorem lv2 : readV [97, 98, 58, 99, 61, 49] 0 (plainP startN) (plainP charN) = .tuple #[.string ⟨#[97, 98]⟩, .int .i64 2, .int .i64 0] := by kernel_rfl
theorem lv3 : partV [97, 98, 58, 99] = .tuple #[.string ⟨#[97, 98]⟩, .string ⟨#[99]⟩, .int .i64 0] := by kernel_rfl
theorem lv4 : partV [97, 58] = .tuple #[.string ⟨#[]⟩, .string ⟨#[]⟩, .int .i64 9] := by kernel_rfl

set_option maxHeartbeats 1000000 in
theorem live05_any (w : World) (ht : TabN w) : Calls Tryd.prog 11 #[] w fun e w' => e = .returned (.bool true) ∧ Below w.heap.size w w' := by
  obtain ⟨W, hW⟩ : ∃ W, w.alloc (.cells #[.int .u8 97, .int .u8 98, .int .u8 58, .int .u8 99, .int .u8 61, .int .u8 49] 5 (6, 7)) = W := ⟨_, rfl⟩
  have hb0 : Below w.heap.size w W := hW ▸ (Below.refl _ w).alloc (Nat.le_refl _) _
  have hs : Sees W (some ⟨w.heap.size, 0, none⟩) (vB [97, 98, 58, 99, 61, 49]) := hW ▸ sees_lit w (vB [97, 98, 58, 99, 61, 49]) _ _
  have htW : TabN W := ht.below hb0
  have H1 := Lib.hid (fun (w' : World) (hb : Below W.heap.size W w') => lv1 ▸ name_any [97, 98, 58, 99, 61, 49] (some ⟨w.heap.size, 0, none⟩) 6 6 0 w' rfl (by omega) (by omega) ⟨by omega, by omega⟩ (hs.below hb) (htW.below hb))
  have H2 := Lib.hid (fun (w' : World) (hb : Below W.heap.size W w') => lv2 ▸ plainN_any [97, 98, 58, 99, 61, 49] (some ⟨w.heap.size, 0, none⟩) 6 6 0 w' rfl (by omega) (by omega) ⟨by omega, by omega⟩ (hs.below hb) (htW.below hb))
  have H3 := Lib.hid (fun (w' : World) (hb : Below W.heap.size W w') => lv3 ▸ part_any [97, 98, 58, 99] w' (by simp) (htW.below hb))
  have H4 := Lib.hid (fun (w' : World) (hb : Below W.heap.size W w') => lv4 ▸ part_any [97, 58] w' (by simp) (htW.below hb))
  have kc := fun (w : World) (C : Array Value) (n c : Nat) => Lib.run_convert_bytes_const (P := Tryd.prog) w 22 5 C n c Tryd.underlying22 Tryd.underlying5
  clear hs htW
  go_enter Tryd.func11, Tryd.ntmps11
  go_wp2_with fail
  refine (H1.out W (Below.refl _ _)).mono ?_
  rintro e w1 ⟨rfl, hb1⟩
  go_wp2_with fail
  refine (H2.out w1 hb1).mono ?_
  rintro e w2 ⟨rfl, hb2⟩
  have hb12 := hb1.trans (hb2.mono hb1.size)
  go_wp2_with fail
  refine (H3.out w2 hb12).mono ?_
  rintro e w3 ⟨rfl, hb3⟩
  have hb13 := hb12.trans (hb3.mono hb12.size)
  go_wp2_with fail
  refine (H4.out w3 hb13).mono ?_
  rintro e w4 ⟨rfl, hb4⟩
  have hb14 := hb13.trans (hb4.mono hb13.size)
  go_wp2_with fail
  go_ret
  exact ⟨rfl, hb0.trans (hb14.mono hb0.size)⟩

theorem readV_tup (l : List UInt8) (k : Int) (p q : Int → Bool) : ∃ s z e, readV l k p q = .tuple #[.string s, .int .i64 z, .int .i64 e] := by
  unfold readV
  split
  · exact ⟨_, _, _, rfl⟩
  · split
    · exact ⟨_, _, _, rfl⟩
    · split <;> exact ⟨_, _, _, rfl⟩
set_option maxHeartbeats 4000000 in
theorem nameReads_any (l : List UInt8) (A : Option Addr) (n c : Nat) (k : Int) (w : World) (hn : l.length = n) (hnc : n ≤ c) (hcm : c ≤ maxLen) (hk : I64 k) (hs : Sees w A (vB l)) (ht : TabN w) :
    Calls Tryd.prog 3 #[.slice A n c, .int .i64 k] w fun e w' => e = .returned (.bool true) ∧ Below w.heap.size w w' := by
  unfold maxLen at hcm
  have HL := Lib.hid (fun (w' : World) (hb : Below w.heap.size w w') => live05_any w' (ht.below hb))
  by_cases hbig : 2000 < n
  · clear hs
    go_enter Tryd.func3, Tryd.ntmps3
    go_wp2_with fail
    refine (HL.out w (Below.refl _ _)).mono ?_
    rintro e w1 ⟨rfl, hb⟩
    go_wp2_with fail
    go_ret
    exact ⟨rfl, hb⟩
  · have H1 := fun (w' : World) (hb : Below w.heap.size w w') => name_any l A n c k w' hn hnc (by omega) hk (hs.below hb) (ht.below hb)
    have H2 := fun (w' : World) (hb : Below w.heap.size w w') => plainN_any l A n c k w' hn hnc (by omega) hk (hs.below hb) (ht.below hb)
    have H3 := fun (w' : World) (hb : Below w.heap.size w w') => rread_any l A n c k w' false hn hnc (by omega) hk (hs.below hb)
    have H4 := fun (w' : World) (hb : Below w.heap.size w w') => rread_any l A n c k w' true hn hnc (by omega) hk (hs.below hb)
    have H5 := Lib.hid (fun (w' : World) (hb : Below w.heap.size w w') => blanks_any l A n c k w' hn hnc (by omega) hk (hs.below hb))
    have H6 := Lib.hid (fun (w' : World) (hb : Below w.heap.size w w') => rblanks_any l A n c k w' hn hnc (by omega) hk (hs.below hb))
    rw [show kindP false startN = startN from rfl, show kindP false charN = charN from rfl] at H3
    rw [show kindP true startN = plainP startN from rfl, show kindP true charN = plainP charN from rfl] at H4
    obtain ⟨s1, z1, e1, h1⟩ := readV_tup l k startN charN
    obtain ⟨s2, z2, e2, h2⟩ := readV_tup l k (plainP startN) (plainP charN)
    rw [h1] at H1 H3
    rw [h2] at H2 H4
    have K1 := Lib.hid H1
    have K2 := Lib.hid H2
    have K3 := Lib.hid H3
    have K4 := Lib.hid H4
    obtain ⟨bl, hbl⟩ : ∃ bl, blkV l k = bl := ⟨_, rfl⟩
    rw [hbl] at H5 H6
    clear H1 H2 H3 H4 h1 h2 hs hn hbl
    go_enter Tryd.func3, Tryd.ntmps3
    go_wp2_with fail
    refine (K1.out w (Below.refl _ _)).mono ?_
    rintro e w1 ⟨rfl, hb1⟩
    go_wp2_with fail
    refine (K2.out w1 hb1).mono ?_
    rintro e w2 ⟨rfl, b2⟩
    have hb2 := hb1.trans (b2.mono hb1.size)
    go_wp2_with fail
    refine (K3.out w2 hb2).mono ?_
    rintro e w3 ⟨rfl, b3⟩
    have hb3 := hb2.trans (b3.mono hb2.size)
    go_wp2_with fail
    refine (K4.out w3 hb3).mono ?_
    rintro e w4 ⟨rfl, b4⟩
    have hb4 := hb3.trans (b4.mono hb3.size)
    go_wp2_with fail
    refine (H5.out w4 hb4).mono ?_
    rintro e w5 ⟨rfl, rfl⟩
    go_wp2_with fail
    refine (H6.out w4 hb4).mono ?_
    rintro e w5 ⟨rfl, rfl⟩
    go_wp2_with fail
    refine (HL.out w4 hb4).mono ?_
    rintro e w6 ⟨rfl, b6⟩
    go_wp2_with fail
    go_ret
    exact ⟨rfl, hb4.trans (b6.mono hb4.size)⟩
end Go.Proofs.YtncoldgkljnbeaaDoor
