/- References of a text: behind, Refs, by the program. -/
import Derived.Test.YtgbbccfoceifnaaDoorLitb
import Derived.Test.YtgbbccfoceifnaaDoorCrb
namespace Go.Proofs.YtgbbccfoceifnaaDoor
open Go.ChangeShapes Go.WideShapes Go.ChangeAt Go.RowKit
set_option linter.unusedVariables false
set_option maxRecDepth 100000

theorem ret_ii {a b c d : Int} (h1 : a = c) (h2 : b = d) : Ending.returned (.tuple #[.int .i64 a, .int .i64 b]) = .returned (.tuple #[.int .i64 c, .int .i64 d]) := by rw [h1, h2]
set_option maxHeartbeats 2000000 in
theorem behind_any (l : List UInt8) (A : Option Addr) (n c k : Nat) (w : World)
    (hn : l.length = n) (hnc : n ≤ c) (hm : c ≤ 9223372036854775807) (hk : k < n) (hn9 : n ≤ 1000000) (hs : Sees w A (vB l)) (ht : TabC w) :
    Calls Tryd.prog 72 #[.slice A n c, .int .i64 (k : Int)] w fun e w' => e = .returned (.tuple #[.int .i64 (bhN l k).1, .int .i64 (bhN l k).2]) ∧ Below w.heap.size w w' := by
  unfold bhN
  rw [hn]
  have HC := cchar_any l A n c k w hn hnc hm ⟨by omega, by omega⟩ hn9 hs ht
  have HE := entity_any l A n c k w hn hnc hm ⟨by omega, by omega⟩ hn9 hs ht.toN
  obtain ⟨x, y, z, hv⟩ := chV_tup l k
  obtain ⟨s, y2, z2, hv2⟩ := entV_tup l k 38
  rw [hv] at HC ⊢
  rw [hv2] at HE ⊢
  have KC := Lib.hid HC
  have KE := Lib.hid HE
  by_cases h1 : k + 1 < n
  · obtain ⟨ad, rfl, hcell⟩ := hs.byte (k := k + 1) (by omega)
    obtain ⟨b, hb⟩ : ∃ b, byteAt l (k + 1) = b := ⟨_, rfl⟩
    have hb9 := byteAt_lt l (k + 1)
    rw [hb] at hcell hb9 ⊢
    rw [add1_at] at hcell
    by_cases h35 : b = 35
    · rw [if_pos ⟨h1, h35⟩]
      have t1 : ((b : Int) == 35) = true := by rw [h35]; rfl
      clear HC HE hs hv hv2 hb h35 hn
      go_enter Tryd.func72, Tryd.ntmps72
      go_wp2_with fail
      refine KC.out.mono ?_
      rintro e w1 ⟨rfl, hb1⟩
      go_wp2_with fail
      go_ret2
      exact ⟨rfl, hb1⟩
    · rw [if_neg (by rintro ⟨_, h⟩; exact h35 h)]
      have t1 : ((b : Int) == 35) = false := by simp; omega
      clear HC HE hs hv hv2 hb h35 hn
      go_enter Tryd.func72, Tryd.ntmps72
      go_wp2_with fail
      refine KE.out.mono ?_
      rintro e w1 ⟨rfl, hb1⟩
      go_wp2_with fail
      go_ret2
      exact ⟨rfl, hb1⟩
  · rw [if_neg (by rintro ⟨h, _⟩; exact h1 h)]
    clear HC HE hs hv hv2 hn
    go_enter Tryd.func72, Tryd.ntmps72
    go_wp2_with fail
    refine KE.out.mono ?_
    rintro e w1 ⟨rfl, hb1⟩
    go_wp2_with fail
    go_ret2
    exact ⟨rfl, hb1⟩

/-- At the loop's head: the place, and what is still to come. -/
def RefRel (l : List UInt8) (R : Int × Int) (W0 : World) (i : Value) (w : World) : Prop := ∃ k f : Nat, k ≤ l.length ∧ l.length ≤ k + f ∧ i = .int .i64 k ∧ refsN l f k = R ∧ Below W0.heap.size W0 w
theorem refRel_mk {l : List UInt8} {R : Int × Int} {W0 w : World} {i : Int} (k f : Nat) (h1 : k ≤ l.length) (h2 : l.length ≤ k + f) (h3 : i = k) (h4 : refsN l f k = R) (h5 : Below W0.heap.size W0 w) : RefRel l R W0 (.int .i64 i) w :=
  ⟨k, f, h1, h2, by rw [h3], h4, h5⟩

set_option maxHeartbeats 4000000 in
theorem refs_any (l : List UInt8) (w : World) (hl : l.length ≤ 1000000) (ht : TabC w) :
    Calls Tryd.prog 23 #[strV l] w fun e w' => e = .returned (refsV l) ∧ Below w.heap.size w w' := by
  obtain ⟨B, cap, W1, hrun, hc1, hc2, hb1, hBl, hBw, hs1⟩ := bytes_made l w hl
  have ht1 := ht.below hb1
  have HS := Lib.hid hs1
  have HT := Lib.hid ht1
  have hsz1 := hb1.size
  unfold refsV
  obtain ⟨R, hR⟩ : ∃ R, refsN l l.length 0 = R := ⟨_, rfl⟩
  have HR0 := Lib.hid hR
  rw [hR]
  clear hs1 ht1 ht hR
  go_enter Tryd.func23, Tryd.ntmps23
  go_wp2_with fail
  go_loopw [5] (fun i wr => RefRel l R W1 i wr) (fun i _ => l.length - (intOf i).toNat)
  case atStart => exact refRel_mk 0 l.length (by omega) (by omega) rfl HR0.out (Below.refl _ _)
  case round =>
    obtain ⟨k, f, hk, hf, rfl, hr, hB⟩ := hrel
    have HR := Lib.hid hr
    clear hr
    by_cases hlt : k < l.length
    · have hck : ¬ cap = k := by omega
      have hsd := sees_off (HS.out.below hB) k
      have hi0 := bIndex_any wr (some ⟨B, k, none⟩) (l.length - k) (cap - k) (l.drop k) 38 List.length_drop hsd
      rw [show ((38 : Int).toNat.toUInt8) = UInt8.ofNat 38 from rfl] at hi0
      rcases index_cases (l.drop k) (UInt8.ofNat 38) with ⟨h, hno⟩ | ⟨i, h, hi, hat, hno⟩
      · rw [h] at hi0
        have HI := Lib.hid hi0
        have HE := Lib.hid (refs_none (l := l) f k (fun j h1 h2 h3 => hno (j - k) (by
          rw [at_iff (by rw [List.length_drop]; omega) (by omega), byte_drop, show k + (j - k) = j by omega]; exact h3)))
        clear hi0 h hno hsd
        go_wp2_with fail
        refine HI.out.mono ?_
        rintro e w2 ⟨rfl, rfl⟩
        go_wp2_with fail
        go_ret2
        exact ⟨ret_ii (by rw [← HR.out, HE.out]) (by rw [← HR.out, HE.out]), hb1.trans (hB.mono hsz1)⟩
      · rw [h] at hi0
        have HI := Lib.hid hi0
        rw [List.length_drop] at hi
        have h38 : byteAt l (k + i) = 38 := by
          have := (at_iff (by rw [List.length_drop]; exact hi) (by omega)).1 hat
          rwa [byte_drop] at this
        have hsk := refs_skip (l := l) i f k (by omega) (by omega) (fun j hj h3 => hno j hj ((at_iff (by rw [List.length_drop]; omega) (by omega)).2 (by rw [byte_drop]; exact h3)))
        have hbh := behind_any l (some ⟨B, 0, none⟩) l.length cap (k + i) wr rfl hc1 hc2 (by omega) hl (HS.out.below hB) (HT.out.below hB)
        obtain ⟨g, hg⟩ : ∃ g, f - i = g + 1 := ⟨f - i - 1, by omega⟩
        rw [hg] at hsk
        have hgf : f ≤ i + g + 1 := by omega
        rw [show ((k + i : Nat) : Int) = (k : Int) + (i : Int) by omega] at hbh
        by_cases he : (bhN l (k + i)).2 = 0
        · obtain ⟨m, hm1, hm2, hm3⟩ := bh_go (l := l) (k := k + i) (by omega) he
          have hon := refs_on (l := l) g (k + i) m (by omega) h38 he hm1
          rw [he, hm1] at hbh
          have HBH := Lib.hid hbh
          have HN := Lib.hid (hon.symm.trans (hsk.symm.trans HR.out))
          clear hi0 h hno hsd hat hbh h38 hsk hon hm1 he hg
          go_wp2_with fail
          refine HI.out.mono ?_
          rintro e w2 ⟨rfl, rfl⟩
          go_wp2_with fail
          refine HBH.out.mono ?_
          rintro e w2 ⟨rfl, hb2⟩
          have hB2 := hB.trans (hb2.mono hB.size)
          clear hb2
          go_wp2_with fail
          go_roundw
          case rel => exact refRel_mk m g hm3 (by omega) rfl HN.out hB2
          case measure => simp [intOf]; omega
        · have her := refs_err (l := l) g (k + i) (by omega) h38 he
          obtain ⟨e', hee⟩ : ∃ e', (bhN l (k + i)).2 = e' := ⟨_, rfl⟩
          obtain ⟨y', hyy⟩ : ∃ e', (bhN l (k + i)).1 = e' := ⟨_, rfl⟩
          rw [hee] at hbh her he
          rw [hyy] at hbh
          have t1 : (e' != 0) = true := by simpa using he
          have HBH := Lib.hid hbh
          have HN := Lib.hid (her.symm.trans (hsk.symm.trans HR.out))
          clear hi0 h hno hsd hat hbh h38 hsk her he hg hee hyy
          go_wp2_with fail
          refine HI.out.mono ?_
          rintro e w2 ⟨rfl, rfl⟩
          go_wp2_with fail
          refine HBH.out.mono ?_
          rintro e w2 ⟨rfl, hb2⟩
          have hB2 := hB.trans (hb2.mono hB.size)
          clear hb2
          go_wp2_with fail
          go_ret2
          exact ⟨ret_ii (by rw [← HN.out]; show (k : Int) + i = ((k + i : Nat) : Int); omega) (by rw [← HN.out]), hb1.trans (hB2.mono hsz1)⟩
    · obtain rfl : k = l.length := by omega
      have HI := Lib.hid (fun (A' : Option Addr) (c' : Nat) => bIndex_any wr A' 0 c' [] 38 rfl (sees_nil _ _))
      have HE := Lib.hid (refs_end (l := l) f l.length (Nat.le_refl _))
      by_cases hck : cap = l.length
      all_goals
        go_wp2_with fail
        refine (HI.out _ _).mono ?_
        rintro e w2 ⟨rfl, rfl⟩
        go_wp2_with fail
        go_ret2
        exact ⟨ret_ii (by rw [← HR.out, HE.out]) (by rw [← HR.out, HE.out]), hb1.trans (hB.mono hsz1)⟩
end Go.Proofs.YtgbbccfoceifnaaDoor
