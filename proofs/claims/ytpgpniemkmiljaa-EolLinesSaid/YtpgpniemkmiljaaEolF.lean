/- The document's own Norm; Is; the walk of EolNorms. -/
import Derived.Test.YtpgpniemkmiljaaEolE
namespace Go.Proofs.Ytpgpniemkmiljaa
open Go.ChangeShapes Go.WideShapes Go.ChangeAt Go.RowKit
set_option linter.unusedVariables false

set_option maxRecDepth 100000 in
set_option maxHeartbeats 1000000 in
theorem eolIs_any (w : World) (A : Option Addr) (n c : Nat) (l : List UInt8) (hn : l.length = n) (hs : Sees w A (vB l)) :
    Calls Try.prog 22 #[.slice A n c] w fun e w' => e = .returned (.bool (plainS l)) ∧ w = w' := by
  have HI := Lib.hid (show Calls Try.prog 73 #[.slice A n c, .int .u8 13] w fun e w' => e = .returned (.int .i64 (Lib.indexByte l 13)) ∧ w = w' from bIndex_any w A n c l 13 hn hs)
  have HE : Hid ((decide (Lib.indexByte l 13 < 0)) = plainS l) := by
    unfold Hid
    by_cases h : Lib.indexByte l 13 < 0
    · rw [plain_of_none (index_none h).2]; simpa using h
    · obtain ⟨k, _, hk, _, he⟩ := index_some (show 0 ≤ Lib.indexByte l 13 by omega)
      rw [decide_eq_false h]
      refine (Bool.eq_false_iff.2 fun hp => ?_).symm
      unfold plainS at hp
      rw [List.all_eq_true] at hp
      have := hp 13 (by rw [he]; simp)
      simp at this
  obtain ⟨x, hx⟩ : ∃ x, Lib.indexByte l 13 = x := ⟨_, rfl⟩
  rw [hx] at HI HE
  clear hs hn hx
  go_enter Try.func22, Try.ntmps22
  go_wp2_with (go_at_call 73; refine HI.out.mono ?_; rintro e w' ⟨rfl, rfl⟩)
  go_ret
  exact ⟨ret_bool HE.out, rfl⟩

theorem normS_snoc_other (l : List UInt8) (k : Nat) (hk : k < l.length) (h : l[k] ≠ 13) : normS (l.drop k) = l[k] :: normS (l.drop (k + 1)) := by
  rw [List.drop_eq_getElem_cons hk, normS, if_pos h]
theorem normS_at_feed (l : List UInt8) (k : Nat) (hk : k < l.length) (h : l[k] = 13) (h10 : l[k + 1]? = some 10) : normS (l.drop k) = normS (l.drop (k + 1)) := by
  rw [List.drop_eq_getElem_cons hk, h, normS_feed _ (by rw [head_drop]; exact h10)]
theorem normS_at_cr (l : List UInt8) (k : Nat) (hk : k < l.length) (h : l[k] = 13) (h10 : l[k + 1]? ≠ some 10) : normS (l.drop k) = 10 :: normS (l.drop (k + 1)) := by
  rw [List.drop_eq_getElem_cons hk, h, normS_carriage _ (by rw [head_drop]; exact h10)]
theorem byteNum (l : List UInt8) (k : Nat) (h : k < l.length) (x : UInt8) : (byteAt l k = x.toNat ↔ l[k] = x) := by
  unfold byteAt
  rw [List.getElem?_eq_getElem h]
  simp only [Option.getD_some]
  exact UInt8.toNat_inj
theorem b_succ {W : World} {base : Nat} {e : TypeId} {size : Nat} {v : Value} {k : Nat} {xs : List Value} (h : W.ownsRow base e size v (k + 1) xs) : ∃ g cap, v = .slice (some ⟨g, 0, none⟩) (k + 1) cap := by
  rcases h.2 with ⟨_, h0⟩ | ⟨g, cap, _, rfl, _⟩
  · omega
  · exact ⟨g, cap, rfl⟩
/-- What the document's own Norm tells. -/
def RNormPost (w : World) (l : List UInt8) (e : Ending) (w' : World) : Prop :=
  ∃ A c, e = .returned (.slice A (normS l).length c) ∧ Sees w' A (vB (normS l)) ∧ Below w.heap.size w w'

set_option maxRecDepth 100000 in
set_option maxHeartbeats 4000000 in
theorem rnorm_any (w : World) (A : Option Addr) (n c : Nat) (l : List UInt8) (hn : l.length = n) (hc : n ≤ 1099511627776) (hs : Sees w A (vB l)) :
    Calls Try.prog 21 #[.slice A n c] w (RNormPost w l) := by
  obtain ⟨i0, hi0, hz0, hz1, hz2⟩ := info_parts b8_info
  have HN := Lib.hid hn
  clear hn
  go_enter Try.func21, Try.ntmps21
  go_wp2
  go_loopw [3, 4] (fun v i wr => ∃ k : Nat, ∃ out : List UInt8, k ≤ n ∧ i = .int .i64 k ∧ Hid (normS l = out ++ normS (l.drop k)) ∧ out.length ≤ k ∧ wr.ownsRow w.heap.size 5 1 v out.length (vB out) ∧ Below w.heap.size w wr) (fun _ i _ => n - (intOf i).toNat)
  case atStart => exact ⟨0, [], Nat.zero_le _, rfl, by unfold Hid; simp, Nat.le_refl _, World.ownsRow_nil _ _ _ _, Below.refl _ _⟩
  case round =>
    obtain ⟨k, out, hk, rfl, HO, hol, hown, hB⟩ := hrel
    have hsW := hB.size
    by_cases hlt : k < n
    · have hkl : k < l.length := by rw [HN.out]; exact hlt
      obtain ⟨ad, rfl, hcell⟩ := (hs.below hB).byte hkl
      have hlt2 := byteAt_lt l k
      have hbn := byteNum l k hkl
      obtain ⟨m, hm⟩ : ∃ m, out.length = m := ⟨_, rfl⟩
      rw [hm] at hown hol
      have HM := Lib.hid hm
      have HOW := Lib.hid hown
      clear hm hown
      by_cases h13 : l[k] = 13
      · have hb : byteAt l k = 13 := (hbn 13).2 h13
        rw [hb] at hcell
        by_cases hend : k + 1 = n
        · have hno : l[k + 1]? ≠ some 10 := by rw [List.getElem?_eq_none (by rw [HN.out]; omega)]; simp
          have HE := Lib.hid (normS_at_cr l k hkl h13 hno)
          have ht : ((k : Int) + 1 == (n : Int)) = true := by simp; omega
          clear hb hbn h13 hno hkl hend
          go_wp2_with (first | (at_builtin; refine wpList_append_own _ rfl _ _ 22 rfl w.heap.size 5 i0 (.int .u8 0) 1 1 Try.underlying22 hi0 hz0 hz1 hz2 rfl (by decide) _ m (vB out) rfl (HOW.out.alloc _) ⟨wr.heap.size, 0, none⟩ 1 1 (vB [10]) rfl rfl (b_cells wr (vB [10]) _) (vB_ones _) (by unfold maxLen; omega) (by omega) (by simp; omega) ?_; intro v' w3 hown3 hgrow3 _; rw [← vB_append] at hown3; have HO3 := Lib.hid hown3; have HB3 := Lib.hid ((hB.alloc (by omega) _).grown hgrow3 (by simp; omega) (fun j hj => (HOW.out.lt j hj).1)); clear hown3 hgrow3))
          go_roundw
          case rel => exact ⟨k + 1, out ++ [10], by omega, by go_num, by unfold Hid; rw [HO.out, HE.out]; simp, by simp; have := HM.out; omega, by rw [List.length_append, HM.out]; exact HO3.out, HB3.out⟩
          case measure => simp [intOf]; omega
        · have hkl2 : k + 1 < l.length := by rw [HN.out]; omega
          obtain ⟨ad2, e2, hcell2⟩ := (hs.below hB).byte hkl2
          injection e2 with e2
          subst e2
          rw [show ad.add (k + 1) = ⟨ad.block, ad.off + (k + 1), none⟩ by unfold Addr.add; simp] at hcell2
          have hlt3 := byteAt_lt l (k + 1)
          have hi := byte10 l (k + 1) hkl2
          obtain ⟨b, hb2⟩ : ∃ b, byteAt l (k + 1) = b := ⟨_, rfl⟩
          rw [hb2] at hcell2 hlt3 hi
          have ht : ((k : Int) + 1 == (n : Int)) = false := by simp; omega
          have hk1 : k + 1 < n := by omega
          by_cases h10 : b = 10
          · have HE := Lib.hid (normS_at_feed l k hkl h13 (hi.1 (by omega)))
            have ht2 : ((b : Int) != 10) = false := by simp [h10]
            clear hb hbn h13 hkl hkl2 hi hb2 h10 hend
            go_wp2_with fail
            go_roundw
            case rel => exact ⟨k + 1, out, by omega, by go_num, by unfold Hid; rw [HO.out, HE.out], by have := HM.out; omega, by rw [HM.out]; exact HOW.out, hB⟩
            case measure => simp [intOf]; omega
          · have HE := Lib.hid (normS_at_cr l k hkl h13 (fun h => h10 (by have := hi.2 h; omega)))
            have ht2 : ((b : Int) != 10) = true := by simp; omega
            clear hb hbn h13 hkl hkl2 hi hb2 h10 hend
            go_wp2_with (first | (at_builtin; refine wpList_append_own _ rfl _ _ 22 rfl w.heap.size 5 i0 (.int .u8 0) 1 1 Try.underlying22 hi0 hz0 hz1 hz2 rfl (by decide) _ m (vB out) rfl (HOW.out.alloc _) ⟨wr.heap.size, 0, none⟩ 1 1 (vB [10]) rfl rfl (b_cells wr (vB [10]) _) (vB_ones _) (by unfold maxLen; omega) (by omega) (by simp; omega) ?_; intro v' w3 hown3 hgrow3 _; rw [← vB_append] at hown3; have HO3 := Lib.hid hown3; have HB3 := Lib.hid ((hB.alloc (by omega) _).grown hgrow3 (by simp; omega) (fun j hj => (HOW.out.lt j hj).1)); clear hown3 hgrow3))
            go_roundw
            case rel => exact ⟨k + 1, out ++ [10], by omega, by go_num, by unfold Hid; rw [HO.out, HE.out]; simp, by simp; have := HM.out; omega, by rw [List.length_append, HM.out]; exact HO3.out, HB3.out⟩
            case measure => simp [intOf]; omega
      · have HE := Lib.hid (normS_snoc_other l k hkl h13)
        have hb13 : byteAt l k ≠ 13 := fun h => h13 ((hbn 13).1 h)
        have hcv : vB [l[k]] = [.int .u8 (byteAt l k : Int)] := by unfold vB byteAt; rw [List.getElem?_eq_getElem hkl]; rfl
        obtain ⟨x, hx⟩ : ∃ x, l[k] = x := ⟨_, rfl⟩
        rw [hx] at HE hcv
        obtain ⟨b, hb2⟩ : ∃ b, byteAt l k = b := ⟨_, rfl⟩
        rw [hb2] at hcell hlt2 hb13 hcv
        have ht2 : ((b : Int) != 13) = true := by simp; omega
        have HV := Lib.hid hcv
        clear hbn h13 hx hb2 hcv hkl hb13
        go_wp2_with (first | (at_builtin; refine wpList_append_own _ rfl _ _ 22 rfl w.heap.size 5 i0 (.int .u8 0) 1 1 Try.underlying22 hi0 hz0 hz1 hz2 rfl (by decide) _ m (vB out) rfl (HOW.out.alloc _) ⟨wr.heap.size, 0, none⟩ 1 1 [.int .u8 (b : Int)] rfl rfl (b_cells wr [.int .u8 (b : Int)] _) (by rw [← HV.out]; exact vB_ones _) (by unfold maxLen; omega) (by omega) (by simp; omega) ?_; intro v' w3 hown3 hgrow3 _; rw [← HV.out, ← vB_append] at hown3; have HO3 := Lib.hid hown3; have HB3 := Lib.hid ((hB.alloc (by omega) _).grown hgrow3 (by simp; omega) (fun j hj => (HOW.out.lt j hj).1)); clear hown3 hgrow3))
        go_roundw
        case rel => exact ⟨k + 1, out ++ [x], by omega, by go_num, by unfold Hid; rw [HO.out, HE.out]; simp, by simp; have := HM.out; omega, by rw [List.length_append, HM.out]; exact HO3.out, HB3.out⟩
        case measure => simp [intOf]; omega
    · obtain rfl : k = n := by omega
      have e := HO.out
      rw [List.drop_eq_nil_of_le (by rw [HN.out]; omega)] at e
      have HE := Lib.hid (show out = normS l by rw [e]; simp [normS])
      obtain ⟨A1, c1, rfl⟩ := b_form hown
      have HOW := Lib.hid hown
      clear e hown
      go_wp2_with fail
      go_ret
      have e := HE.out
      subst e
      exact ⟨A1, c1, rfl, b_sees HOW.out, hB⟩
end Go.Proofs.Ytpgpniemkmiljaa
