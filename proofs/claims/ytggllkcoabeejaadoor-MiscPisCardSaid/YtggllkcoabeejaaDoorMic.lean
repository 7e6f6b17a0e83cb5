/- How the marks behind are found. -/
import Derived.Test.YtggllkcoabeejaaDoorMsh
import Derived.Lib.SlBytesConst
namespace Go.Proofs.YtggllkcoabeejaaDoor
open Go.ChangeShapes Go.WideShapes Go.ChangeAt Go.RowKit
set_option linter.unusedVariables false
set_option maxRecDepth 100000

/-- Where a comment ends: the first two dashes, if a sign that closes stands behind them. -/
def cfV (l : List UInt8) : Int := if Lib.index l [45, 45] < 0 ∨ Lib.index l [45, 45] + 2 = l.length ∨ byteAt l ((Lib.index l [45, 45]).toNat + 2) ≠ 62 then -1 else Lib.index l [45, 45]
set_option maxHeartbeats 1000000 in
theorem cfind_any (l : List UInt8) (A : Option Addr) (n c : Nat) (w : World) (hn : l.length = n) (hnc : n ≤ c) (hc9 : c ≤ 9223372036854775807) (hs : Sees w A (vB l)) (h9 : n < 4294967281) (hm : MaxAt w) :
    Calls Tryd.prog 38 #[.slice A n c] w fun e w' => e = .returned (.int .i64 (cfV l)) ∧ Below w.heap.size w w' := by
  have hb1 := (Below.refl w.heap.size w).alloc (Nat.le_refl _) (.cells #[.int .u8 45, .int .u8 45] 5 (2, 3))
  have K1' := bIndex_any l [45, 45] A (some ⟨w.heap.size, 0, none⟩) n c 2 2 (w.alloc (.cells #[.int .u8 45, .int .u8 45] 5 (2, 3))) hn rfl hnc (hs.below hb1) (sees_lit w _ _ _) h9 (by omega) (by omega) (hm.below hb1)
  have kb := Lib.run_convert_bytes_const (P := Tryd.prog) w 22 5 #[.int .u8 45, .int .u8 45] 2 2 Tryd.underlying22 Tryd.underlying5
  have hroom := Lib.index_room l [45, 45]
  have hge := Lib.index_ge l [45, 45]
  unfold cfV
  obtain ⟨z, hz⟩ : ∃ z, Lib.index l [45, 45] = z := ⟨_, rfl⟩
  rw [hz] at K1' hroom hge ⊢
  have K1 := Lib.hid K1'
  simp only [List.length_cons, List.length_nil] at hroom
  rw [hn] at hroom ⊢
  clear K1' hz hm
  by_cases h0 : z < 0
  · rw [if_pos (.inl h0)]
    clear hs
    go_enter Tryd.func38, Tryd.ntmps38
    go_wp2_with fail
    refine K1.out.mono ?_
    rintro e w2 ⟨rfl, b2⟩
    go_wp2_with fail
    go_ret
    exact ⟨rfl, hb1.trans (b2.mono hb1.size)⟩
  · obtain ⟨i, rfl⟩ : ∃ i : Nat, z = i := ⟨z.toNat, by omega⟩
    have hr := hroom (by omega)
    by_cases he : i + 2 = n
    · rw [if_pos (.inr (.inl (by omega)))]
      have t1 : (((i : Int) + 2) == (n : Int)) = true := by simp; omega
      have t0 : ¬ ((i : Int) < 0) := by omega
      clear hs
      go_enter Tryd.func38, Tryd.ntmps38
      go_wp2_with fail
      refine K1.out.mono ?_
      rintro e w2 ⟨rfl, b2⟩
      go_wp2_with fail
      go_ret
      exact ⟨rfl, hb1.trans (b2.mono hb1.size)⟩
    · have t1 : (((i : Int) + 2) == (n : Int)) = false := by simp; omega
      have t0 : ¬ ((i : Int) < 0) := by omega
      have t3 : (0 : Int) ≤ (i : Int) + 2 := by omega
      have t4 : (i : Int) + 2 < (n : Int) := by omega
      have t5 : ((i : Int) + 2).toNat = i + 2 := by omega
      obtain ⟨ad, rfl, hcell⟩ := hs.byte (k := i + 2) (by omega)
      rw [Int.toNat_natCast]
      have hq9 := byteAt_lt l (i + 2)
      obtain ⟨q, hq⟩ : ∃ q, byteAt l (i + 2) = q := ⟨_, rfl⟩
      rw [hq] at hcell hq9 ⊢
      clear hs hq
      by_cases h62 : q = 62
      · rw [if_neg (by omega)]
        have t6 : ((q : Int) != 62) = false := by simp; omega
        go_enter Tryd.func38, Tryd.ntmps38
        go_wp2_with fail
        refine K1.out.mono ?_
        rintro e w2 ⟨rfl, b2⟩
        have hc2 := cell_later (hb1.trans (b2.mono hb1.size)) hcell
        have hc3 : w2.cell? ⟨ad.block, ad.off + (i + 1 + 1), none⟩ = some (.int .u8 q) := by
          have h := hc2
          unfold Addr.add at h
          rwa [if_neg (by omega)] at h
        go_wp2_with fail
        go_ret
        exact ⟨rfl, hb1.trans (b2.mono hb1.size)⟩
      · rw [if_pos (.inr (.inr h62))]
        have t6 : ((q : Int) != 62) = true := by simp; omega
        go_enter Tryd.func38, Tryd.ntmps38
        go_wp2_with fail
        refine K1.out.mono ?_
        rintro e w2 ⟨rfl, b2⟩
        have hc2 := cell_later (hb1.trans (b2.mono hb1.size)) hcell
        have hc3 : w2.cell? ⟨ad.block, ad.off + (i + 1 + 1), none⟩ = some (.int .u8 q) := by
          have h := hc2
          unfold Addr.add at h
          rwa [if_neg (by omega)] at h
        go_wp2_with fail
        go_ret
        exact ⟨rfl, hb1.trans (b2.mono hb1.size)⟩
set_option maxHeartbeats 1000000 in
theorem ffind_any (l mark : List UInt8) (A : Option Addr) (n c b : Nat) (w : World) (hn : l.length = n) (hnc : n ≤ c) (hc9 : c ≤ 9223372036854775807) (hs : Sees w A (vB l)) (h9 : n < 4294967281) (h2 : 2 ≤ mark.length) (hk9 : mark.length ≤ 1000) (hm : MaxAt w) (hb : w.cell? ⟨b, 0, none⟩ = some (strV mark)) :
    Calls Tryd.prog 54 #[.slice A n c, .pointer (some ⟨b, 0, none⟩)] w fun e w' => e = .returned (.int .i64 (Lib.index l mark)) ∧ Below w.heap.size w w' := by
  have H := Lib.hid (fun (w' : World) (B : Option Addr) (d : Nat) (hb' : Below w.heap.size w w') (h : Sees w' B (vB mark)) => bIndex_any l mark A B n c mark.length d w' hn rfl hnc (hs.below hb') h h9 h2 hk9 (hm.below hb'))
  have kc := fun W => run_bytes_of_string (P := Tryd.prog) W 9 22 5 ⟨mark.toArray⟩ Tryd.underlying9 Tryd.underlying22 Tryd.underlying5
  have hB2 := fun o => ((Below.refl w.heap.size w).alloc (Nat.le_refl _) o).drew
  clear hs hm
  go_enter Tryd.func54, Tryd.ntmps54
  go_wp2_with fail
  refine (H.out _ _ _ (hB2 _) (made_sees _ mark _ _ _ _ rfl)).mono ?_
  rintro e w2 ⟨rfl, b2⟩
  go_wp2_with fail
  go_ret
  exact ⟨rfl, (hB2 _).trans (b2.mono (hB2 _).size)⟩
end Go.Proofs.YtggllkcoabeejaaDoor
