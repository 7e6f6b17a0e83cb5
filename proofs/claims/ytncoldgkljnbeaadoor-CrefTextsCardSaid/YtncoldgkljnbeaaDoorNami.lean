/- Names: a name's parts, by the program and by the document. -/
import Derived.Test.YtncoldgkljnbeaaDoorNamh
namespace Go.Proofs.YtncoldgkljnbeaaDoor
open Go.ChangeShapes Go.WideShapes Go.ChangeAt Go.RowKit
set_option linter.unusedVariables false
set_option maxRecDepth 100000

def partV (l : List UInt8) : Value :=
  if wholeB l startN charN = false then .tuple #[.string ⟨#[]⟩, .string ⟨#[]⟩, .int .i64 7]
  else if colI l < 0 then .tuple #[.string ⟨#[]⟩, strV l, .int .i64 0]
  else if (colI l).toNat = 0 ∨ wholeB (l.drop ((colI l).toNat + 1)) (plainP startN) (plainP charN) = false then .tuple #[.string ⟨#[]⟩, .string ⟨#[]⟩, .int .i64 9]
  else .tuple #[strV (l.take (colI l).toNat), strV (l.drop ((colI l).toNat + 1)), .int .i64 0]
theorem partV_7 {l : List UInt8} (h : wholeB l startN charN = false) : partV l = .tuple #[.string ⟨#[]⟩, .string ⟨#[]⟩, .int .i64 7] := by rw [partV, if_pos h]
theorem partV_one {l : List UInt8} (h : wholeB l startN charN = true) (hc : colI l < 0) : partV l = .tuple #[.string ⟨#[]⟩, strV l, .int .i64 0] := by
  rw [partV, if_neg (by rw [h]; exact Bool.noConfusion), if_pos hc]
theorem partV_9 {l : List UInt8} {i : Nat} (h : wholeB l startN charN = true) (hc : colI l = i) (h2 : i = 0 ∨ wholeB (l.drop (i + 1)) (plainP startN) (plainP charN) = false) : partV l = .tuple #[.string ⟨#[]⟩, .string ⟨#[]⟩, .int .i64 9] := by
  rw [partV, if_neg (by rw [h]; exact Bool.noConfusion), if_neg (by omega), hc, Int.toNat_natCast, if_pos h2]
theorem partV_two {l : List UInt8} {i : Nat} (h : wholeB l startN charN = true) (hc : colI l = i) (h1 : i ≠ 0) (h2 : wholeB (l.drop (i + 1)) (plainP startN) (plainP charN) = true) : partV l = .tuple #[strV (l.take i), strV (l.drop (i + 1)), .int .i64 0] := by
  rw [partV, if_neg (by rw [h]; exact Bool.noConfusion), if_neg (by omega), hc, Int.toNat_natCast, if_neg]
  rintro (h3 | h3)
  · exact h1 h3
  · rw [h2] at h3; cases h3

set_option maxHeartbeats 1000000 in
theorem part_any (l : List UInt8) (w : World) (hl : l.length ≤ 1000000) (ht : TabN w) :
    Calls Tryd.prog 22 #[strV l] w fun e w' => e = .returned (partV l) ∧ Below w.heap.size w w' := by
  have H1 := Lib.hid (isName_any l w hl ht)
  cases hw : wholeB l startN charN with
  | false =>
    rw [partV_7 hw]
    rw [hw] at H1
    clear hw
    go_enter Tryd.func22, Tryd.ntmps22
    go_wp2_with fail
    refine H1.out.mono ?_
    rintro e w1 ⟨rfl, hb⟩
    go_wp2_with fail
    go_ret3
    exact ⟨rfl, hb⟩
  | true =>
    rw [hw] at H1
    have HC := Lib.hid (fun (w : World) => cut_any l w hl)
    rcases colI_cases l with ⟨hc, hno⟩ | ⟨i, hc, hi, hno⟩
    · rw [partV_one hw (by omega)]
      unfold cutV at HC
      rw [if_pos (by omega)] at HC
      clear hw hno hc
      go_enter Tryd.func22, Tryd.ntmps22
      go_wp2_with fail
      refine H1.out.mono ?_
      rintro e w1 ⟨rfl, hb1⟩
      go_wp2_with fail
      refine (HC.out w1).mono ?_
      rintro e w2 ⟨rfl, hb2⟩
      go_wp2_with fail
      go_ret3
      exact ⟨rfl, hb1.trans (hb2.mono hb1.size)⟩
    · unfold cutV at HC
      rw [if_neg (by omega), hc, Int.toNat_natCast] at HC
      have hdl : (l.drop (i + 1)).length ≤ 1000000 := by rw [List.length_drop]; omega
      have HP := Lib.hid (fun (w' : World) (hb : Below w.heap.size w w') => isPlain_any (l.drop (i + 1)) w' hdl (ht.below hb))
      by_cases h0 : i = 0
      · subst h0
        rw [partV_9 hw hc (.inl rfl)]
        rw [List.take_zero] at HC
        clear hw hc hi hno
        go_enter Tryd.func22, Tryd.ntmps22
        go_wp2_with fail
        refine H1.out.mono ?_
        rintro e w1 ⟨rfl, hb1⟩
        go_wp2_with fail
        refine (HC.out w1).mono ?_
        rintro e w2 ⟨rfl, hb2⟩
        go_wp2_with fail
        go_ret3
        exact ⟨rfl, hb1.trans (hb2.mono hb1.size)⟩
      · have hil : i < l.length := (List.getElem?_eq_some_iff.1 hi).1
        have hpe : (l.take i).isEmpty = false := by
          rw [List.isEmpty_eq_false_iff]
          intro e
          have h5 : (l.take i).length = i := by simp; omega
          rw [e] at h5
          exact h0 h5.symm
        cases hp : wholeB (l.drop (i + 1)) (plainP startN) (plainP charN) with
        | false =>
          rw [partV_9 hw hc (.inr hp)]
          rw [hp] at HP
          clear hw hc hi hno hp
          obtain ⟨P, hP⟩ : ∃ P, l.take i = P := ⟨_, rfl⟩
          obtain ⟨L, hL⟩ : ∃ L, l.drop (i + 1) = L := ⟨_, rfl⟩
          rw [hP] at HC hpe
          rw [hL] at HC HP
          clear hP hL hdl
          go_enter Tryd.func22, Tryd.ntmps22
          go_wp2_with fail
          refine H1.out.mono ?_
          rintro e w1 ⟨rfl, hb1⟩
          go_wp2_with fail
          refine (HC.out w1).mono ?_
          rintro e w2 ⟨rfl, hb2⟩
          have hb12 := hb1.trans (hb2.mono hb1.size)
          go_wp2_with fail
          refine (HP.out w2 hb12).mono ?_
          rintro e w3 ⟨rfl, hb3⟩
          go_wp2_with fail
          go_ret3
          exact ⟨rfl, hb12.trans (hb3.mono hb12.size)⟩
        | true =>
          rw [partV_two hw hc h0 hp]
          rw [hp] at HP
          clear hw hc hi hno hp
          obtain ⟨P, hP⟩ : ∃ P, l.take i = P := ⟨_, rfl⟩
          obtain ⟨L, hL⟩ : ∃ L, l.drop (i + 1) = L := ⟨_, rfl⟩
          rw [hP] at HC hpe ⊢
          rw [hL] at HC HP ⊢
          clear hP hL hdl
          go_enter Tryd.func22, Tryd.ntmps22
          go_wp2_with fail
          refine H1.out.mono ?_
          rintro e w1 ⟨rfl, hb1⟩
          go_wp2_with fail
          refine (HC.out w1).mono ?_
          rintro e w2 ⟨rfl, hb2⟩
          have hb12 := hb1.trans (hb2.mono hb1.size)
          go_wp2_with fail
          refine (HP.out w2 hb12).mono ?_
          rintro e w3 ⟨rfl, hb3⟩
          go_wp2_with fail
          go_ret3
          exact ⟨rfl, hb12.trans (hb3.mono hb12.size)⟩

/-- How many colons lie ahead of a place, and where the last of them lies. -/
def cntC (l : List UInt8) : Nat → Nat
  | 0 => 0
  | k + 1 => if l[k]? = some 58 then cntC l k + 1 else cntC l k
def lastC (l : List UInt8) : Nat → Nat
  | 0 => 0
  | k + 1 => if l[k]? = some 58 then k else lastC l k
theorem cntC_le (l : List UInt8) (k : Nat) : cntC l k ≤ k := by
  induction k with
  | zero => exact Nat.le_refl _
  | succ k ih => rw [cntC]; split <;> omega
theorem cntC_none {l : List UInt8} (h : ∀ k : Nat, l[k]? ≠ some 58) (k : Nat) : cntC l k = 0 := by
  induction k with
  | zero => rfl
  | succ k ih => rw [cntC, if_neg (h k)]; exact ih
/-- One colon and no more: it is the first. -/
theorem cntC_first {l : List UInt8} {i : Nat} (hi : l[i]? = some 58) (hno : ∀ k < i, l[k]? ≠ some 58) (k : Nat) (hk : i < k) :
    (cntC l k = 1 ∧ lastC l k = i) ∨ (2 ≤ cntC l k ∧ ∃ j, i < j ∧ j < k ∧ l[j]? = some 58) := by
  have h0 : ∀ k ≤ i, cntC l k = 0 := by
    intro k
    induction k with
    | zero => intro _; rfl
    | succ k ih => intro h; rw [cntC, if_neg (hno k (by omega))]; exact ih (by omega)
  induction k with
  | zero => omega
  | succ k ih =>
    by_cases hik : i = k
    · subst hik
      left
      rw [cntC, lastC, if_pos hi, if_pos hi, h0 i (Nat.le_refl _)]
      exact ⟨rfl, rfl⟩
    · rcases ih (by omega) with ⟨h1, h2⟩ | ⟨h1, j, h2, h3, h4⟩
      · by_cases hc : l[k]? = some 58
        · right
          rw [cntC, if_pos hc, h1]
          exact ⟨Nat.le_refl _, k, by omega, by omega, hc⟩
        · left
          rw [cntC, lastC, if_neg hc, if_neg hc]
          exact ⟨h1, h2⟩
      · right
        rw [cntC]
        exact ⟨by split <;> omega, j, h2, by omega, h4⟩
end Go.Proofs.YtncoldgkljnbeaaDoor
