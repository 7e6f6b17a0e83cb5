/- Names: the document's own End and Read. -/
import Derived.Test.YtdmfladcldkmeaaDoorNamc
import Derived.Test.YtdmfladcldkmeaaDoorUtfN
import Derived.Test.YtdmfladcldkmeaaDoorChc
namespace Go.Proofs.YtdmfladcldkmeaaDoor
open Go.ChangeShapes Go.WideShapes Go.ChangeAt Go.RowKit
set_option linter.unusedVariables false
set_option maxRecDepth 100000

def kindP (b : Bool) (f : Int → Bool) : Int → Bool := if b then plainP f else f
def firstP (b : Bool) : Int → Bool := if b then startN else charN
theorem kind_no {b : Bool} {f : Int → Bool} {r : Int} (h : f r = false) : kindP b f r = false := by
  cases b
  · exact h
  · show plainP f r = false
    unfold plainP; rw [h]; simp
theorem kind_58 {f : Int → Bool} {r : Int} (h : r = 58) : kindP true f r = false := by
  show plainP f r = false
  unfold plainP; simp [h]
theorem kind_yes {b : Bool} {f : Int → Bool} {r : Int} (h : f r = true) (hb : b = false ∨ r ≠ 58) : kindP b f r = true := by
  cases b
  · exact h
  · show plainP f r = true
    unfold plainP; rw [h]; rcases hb with hb | hb
    · cases hb
    · simp [hb]

set_option maxHeartbeats 4000000 in
theorem rend_any (l : List UInt8) (A : Option Addr) (n c k : Nat) (w : World) (pl : Bool) (hn : l.length = n) (hm : n ≤ 9223372036854775800) (hk : k ≤ n) (hs : Sees w A (vB l)) :
    Calls Tryd.prog 98 #[.slice A n c, .int .i64 k, .bool pl] w fun e w' =>
      e = .returned (.int .i64 (endN l (kindP pl charN) n (kindP pl startN) k : Nat)) ∧ Below w.heap.size w w' := by
  obtain ⟨z, hz⟩ : ∃ z, endN l (kindP pl charN) n (kindP pl startN) k = z := ⟨_, rfl⟩
  have HZ0 := Lib.hid hz
  have HS := Lib.hid hs
  have HN := Lib.hid hn
  rw [hz]
  clear hz hs hn
  go_enter Tryd.func98, Tryd.ntmps98
  go_wp2_with fail
  go_loopw [1, 7] (fun i v wr => ∃ k' f : Nat, ∃ b : Bool, k' ≤ n ∧ n ≤ k' + f ∧ i = .int .i64 k' ∧ v = .bool b ∧ Hid (endN l (kindP pl charN) f (kindP pl (firstP b)) k' = z) ∧ Below w.heap.size w wr) (fun i _ _ => n - (intOf i).toNat)
  case atStart => exact ⟨k, n, true, hk, by omega, rfl, rfl, HZ0, Below.refl _ _⟩
  case round =>
    obtain ⟨k', f, b, hkn, hnf, rfl, rfl, HZ, hB⟩ := hrel
    have hs' := HS.out.below hB
    by_cases hlt : k' < n
    · obtain ⟨r, m, hrm⟩ : ∃ r m, chrAt l k' = (r, m) := ⟨_, _, rfl⟩
      have hroom := chrAt_room l k' (by rw [HN.out]; exact hlt)
      rw [hrm, HN.out] at hroom
      simp only [] at hroom
      have H1 := Lib.hid (rchar_ok l A n c k' wr HN.out hm hlt hs' r m hrm)
      have HRM := Lib.hid hrm
      clear hs' hrm
      obtain ⟨x, hx⟩ : ∃ x, charN r = x := ⟨_, rfl⟩
      obtain ⟨y, hy⟩ : ∃ y, startN r = y := ⟨_, rfl⟩
      have H2 := Lib.hid (show ∀ w, Calls Tryd.prog 134 #[.int .i64 r] w fun e w' => e = .returned (.bool x) ∧ w = w' from fun w => hx ▸ rname_any r w)
      have H3 := Lib.hid (show ∀ w, Calls Tryd.prog 135 #[.int .i64 r] w fun e w' => e = .returned (.bool y) ∧ w = w' from fun w => hy ▸ rstart_any r w)
      obtain ⟨u, hu⟩ : ∃ u, firstP b r = u := ⟨_, rfl⟩
      have huv : u = if b then y else x := by rw [← hu, ← hx, ← hy]; cases b <;> rfl
      have HU := Lib.hid hu
      clear hx hy hu
      by_cases h0 : m = 0
      · have HE := Lib.hid (endN_out (l := l) (p := kindP pl (firstP b)) (q := kindP pl charN) f k' (.inr (.inl (by rw [HRM.out]; exact h0))))
        subst h0
        cases b
        all_goals
          go_wp2_with fail
          refine H1.out.mono ?_
          rintro e w1 ⟨rfl, hb⟩
          go_wp2_with (first
            | (go_at_call 134; refine (H2.out _).mono ?_; rintro e w2 ⟨rfl, rfl⟩)
            | (go_at_call 135; refine (H3.out _).mono ?_; rintro e w2 ⟨rfl, rfl⟩))
          go_ret
          exact ⟨by have hz := HZ.out; rw [HE.out] at hz; subst hz; rfl, hB.trans (hb.mono hB.size)⟩
      · cases u with
        | false =>
          have HE := Lib.hid (endN_out (l := l) (p := kindP pl (firstP b)) (q := kindP pl charN) f k' (.inr (.inr (by rw [HRM.out]; exact kind_no HU.out))))
          cases b
          all_goals
            simp only [Bool.false_eq_true, if_false, if_true] at huv
            subst huv
            go_wp2_with fail
            refine H1.out.mono ?_
            rintro e w1 ⟨rfl, hb⟩
            go_wp2_with (first
              | (go_at_call 134; refine (H2.out _).mono ?_; rintro e w2 ⟨rfl, rfl⟩)
              | (go_at_call 135; refine (H3.out _).mono ?_; rintro e w2 ⟨rfl, rfl⟩))
            go_ret
            exact ⟨by have hz := HZ.out; rw [HE.out] at hz; subst hz; rfl, hB.trans (hb.mono hB.size)⟩
        | true =>
          by_cases h58 : pl = true ∧ r = 58
          · obtain ⟨rfl, rfl⟩ := h58
            have HE := Lib.hid (endN_out (l := l) (p := kindP true (firstP b)) (q := kindP true charN) f k' (.inr (.inr (by rw [HRM.out]; exact kind_58 rfl))))
            cases b
            all_goals
              simp only [Bool.false_eq_true, if_false, if_true] at huv
              subst huv
              go_wp2_with fail
              refine H1.out.mono ?_
              rintro e w1 ⟨rfl, hb⟩
              go_wp2_with (first
                | (go_at_call 134; refine (H2.out _).mono ?_; rintro e w2 ⟨rfl, rfl⟩)
                | (go_at_call 135; refine (H3.out _).mono ?_; rintro e w2 ⟨rfl, rfl⟩))
              go_ret
              exact ⟨by have hz := HZ.out; rw [HE.out] at hz; subst hz; rfl, hB.trans (hb.mono hB.size)⟩
          · have hpl : pl = false ∨ r ≠ 58 := by
              cases pl
              · exact .inl rfl
              · exact .inr fun h => h58 ⟨rfl, h⟩
            obtain ⟨g, rfl⟩ : ∃ g, f = g + 1 := ⟨f - 1, by omega⟩
            have HE := Lib.hid (endN_on (l := l) (p := kindP pl (firstP b)) (q := kindP pl charN) g k' (by rw [HN.out]; exact hlt) HRM.out h0 (kind_yes HU.out hpl))
            clear h58
            have hpl2 : pl = false ∨ (pl = true ∧ (r == 58) = false) := by
              rcases hpl with h | h
              · exact .inl h
              · cases pl
                · exact .inl rfl
                · exact .inr ⟨rfl, by simpa using h⟩
            clear hpl
            rcases hpl2 with rfl | ⟨rfl, t58⟩
            all_goals
              cases b
              all_goals
                simp only [Bool.false_eq_true, if_false, if_true] at huv
                subst huv
                go_wp2_with fail
                refine H1.out.mono ?_
                rintro e w1 ⟨rfl, hb⟩
                go_wp2_with (first
                  | (go_at_call 134; refine (H2.out _).mono ?_; rintro e w2 ⟨rfl, rfl⟩)
                  | (go_at_call 135; refine (H3.out _).mono ?_; rintro e w2 ⟨rfl, rfl⟩))
                go_roundw
                case rel => exact ⟨k' + m, g, false, by omega, by omega, by go_num, rfl, by unfold Hid; rw [← HZ.out]; exact HE.out.symm, hB.trans (hb.mono hB.size)⟩
                case measure => simp [intOf]; omega
    · obtain rfl : k' = n := by omega
      have HE := Lib.hid (endN_out (l := l) (p := kindP pl (firstP b)) (q := kindP pl charN) f k' (.inl (by rw [HN.out]; exact Nat.le_refl _)))
      go_wp2_with fail
      go_ret
      exact ⟨by have hz := HZ.out; rw [HE.out] at hz; subst hz; rfl, hB⟩
end Go.Proofs.YtdmfladcldkmeaaDoor
