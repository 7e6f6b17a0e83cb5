/- The walk of DiffPaths. -/
import Derived.Test.YtoiplpmjocemfaaDff
import Derived.Test.YtoiplpmjocemfaaEwc
import Derived.Test.YtoiplpmjocemfaaInts
import Derived.Test.YtoiplpmjocemfaaDpc
import Derived.Test.YtoiplpmjocemfaaDpd
import Derived.Test.YtoiplpmjocemfaaDpe
namespace Go.Proofs.Ytoiplpmjocemfaa
open Go.ChangeShapes Go.WideShapes Go.ChangeAt Go.RowKit
set_option linter.unusedVariables false
set_option maxRecDepth 100000

set_option maxHeartbeats 8000000 in
theorem diffPaths_any (l : List Ev) (p : List ByteArray) (A P : Option Addr) (n c np cp : Nat) (k : Int) (w : World) (hl : l.length = n) (hp : p.length = np) (hnc : n ≤ c) (hc9 : c ≤ 9223372036854775807) (hn9 : n ≤ 1000000) (hpc : np ≤ cp) (hcp9 : cp ≤ 9223372036854775807) (ht : txLen l n ≤ 140737488355328) (hk : I64 k) (hA : EvsOk w A l) (hP : Sees w P (sV p)) :
    Calls Try.prog 10 #[.slice A n c, .int .i64 k, .slice P np cp] w fun e w' => e = .returned (.bool true) ∧ Below w.heap.size w w' := by
  have hkl := hk.1
  have hkh := hk.2
  have G1 := Lib.hid (great26_any l A n c w hl (by omega) hA)
  have F1' := fun (w' : World) (hb : Below w.heap.size w w') => span_any l A n c k w' hl hnc hc9 hn9 hk (hA.below hb)
  have F2' := fun (w' : World) (hb : Below w.heap.size w w') => rspan_any l A n c k w' hl hnc hc9 hn9 hk (hA.below hb)
  obtain ⟨s1, hs1⟩ : ∃ s1, (spanV l k).1 = s1 := ⟨_, rfl⟩
  obtain ⟨s2, hs2⟩ : ∃ s2, (spanV l k).2 = s2 := ⟨_, rfl⟩
  rw [hs1, hs2] at F1' F2'
  have F1 := Lib.hid F1'
  have F2 := Lib.hid F2'
  have F3 := Lib.hid (fun (hp9 : np ≤ 20) (w' : World) (hb : Below w.heap.size w w') => find_any l p A P n c np cp w' hl hp hnc hc9 hn9 (by omega) (hA.below hb) (hP.below hb))
  have F4 := Lib.hid (fun (hp9 : np ≤ 20) (w' : World) (hb : Below w.heap.size w w') => rfind_any l p A P n c np cp w' hl hp hnc hc9 hn9 (by omega) (hA.below hb) (hP.below hb))
  have F5' := fun (w' : World) (hb : Below w.heap.size w w') => text_any l A n c w' hl hnc hc9 hn9 ht (hA.below hb)
  have F6' := fun (w' : World) (hb : Below w.heap.size w w') => rtext_any l A n c w' hl hnc hc9 hn9 (by omega) (hA.below hb)
  obtain ⟨tx, htx⟩ : ∃ tx, (⟨(textN l n).toArray⟩ : ByteArray) = tx := ⟨_, rfl⟩
  rw [htx] at F5' F6'
  have F5 := Lib.hid F5'
  have F6 := Lib.hid F6'
  have F7 := Lib.hid (fun (hko : k < 0 ∨ (n : Int) < k) (w' : World) => path_out A n c k w' hko)
  have F8 := Lib.hid (fun (m : Nat) (hm : m ≤ n) (w' : World) (hb : Below w.heap.size w w') => path_in l A n c m w' hl hnc hc9 hn9 (hA.below hb) hm)
  have F9 := Lib.hid (fun (m : Nat) (hm : m ≤ n) (w' : World) (hb : Below w.heap.size w w') => rpath_in l A n c m w' hl hnc hc9 hn9 (hA.below hb) hm)
  have HFN := Lib.hid (findN_len l p n)
  have HON := Lib.hid (openN_len l)
  clear hl hp hA hP F1' F2' F5' F6' htx hs1 hs2 ht
  go_enter Try.func10, Try.ntmps10
  go_wp2_with fail
  refine G1.out.mono ?_
  rintro e w1 ⟨b1, rfl, hb1⟩
  cases b1 with
  | true =>
    go_wp2_with fail
    refine (live42_any _).mono ?_
    rintro e w2 ⟨rfl, hb2⟩
    go_wp2_with fail
    go_ret
    exact ⟨rfl, hb1.trans (hb2.mono hb1.size)⟩
  | false =>
  by_cases hp20 : 20 < np
  · have hp20' : (20 : Int) < (np : Int) := by omega
    go_wp2_with fail
    refine (live42_any _).mono ?_
    rintro e w2 ⟨rfl, hb2⟩
    go_wp2_with fail
    go_ret
    exact ⟨rfl, hb1.trans (hb2.mono hb1.size)⟩
  have hp20' : ¬ (20 : Int) < (np : Int) := by omega
  have hp9 : np ≤ 20 := by omega
  go_wp2_with fail
  refine (F1.out w1 hb1).mono ?_
  rintro e w2 ⟨rfl, b2⟩
  have hb2 := hb1.trans (b2.mono hb1.size)
  go_wp2_with fail
  refine (F2.out w2 hb2).mono ?_
  rintro e w3 ⟨rfl, b3⟩
  have hb3 := hb2.trans (b3.mono hb2.size)
  go_wp2_with fail
  refine (F3.out hp9 w3 hb3).mono ?_
  rintro e w4 ⟨A4, c4, rfl, hs4, _, _, b4⟩
  have hb4 := hb3.trans (b4.mono hb3.size)
  go_wp2_with fail
  refine (F4.out hp9 w4 hb4).mono ?_
  rintro e w5 ⟨A5, c5, rfl, hs5, _, _, b5⟩
  have hb5 := hb4.trans (b5.mono hb4.size)
  have hfl := HFN.out
  have FI' := numsEq_any A4 A5 _ _ c4 c5 (findN l p n) (findN l p n) w5 rfl rfl (by omega) (hs4.below b5) hs5
  rw [show decide (findN l p n = findN l p n) = true by simp] at FI'
  obtain ⟨q, hq⟩ : ∃ q, (findN l p n).length = q := ⟨_, rfl⟩
  rw [hq] at FI' ⊢
  have FI := Lib.hid FI'
  clear FI' hs4 hs5 hq hfl
  go_wp2_with fail
  refine FI.out.mono ?_
  rintro e w6 ⟨rfl, b6⟩
  have hb6 := hb5.trans (b6.mono hb5.size)
  go_wp2_with fail
  refine (F5.out w6 hb6).mono ?_
  rintro e w7 ⟨rfl, b7⟩
  have hb7 := hb6.trans (b7.mono hb6.size)
  go_wp2_with fail
  refine (F6.out w7 hb7).mono ?_
  rintro e w8 ⟨rfl, b8⟩
  have hb8 := hb7.trans (b8.mono hb7.size)
  by_cases hko : k < 0 ∨ (n : Int) < k
  · have hor : decide (k < 0) = true ∨ (decide (k < 0) = false ∧ decide ((n : Int) < k) = true) := by
      by_cases h0 : k < 0
      · exact .inl (by simpa using h0)
      · exact .inr ⟨by simpa using h0, by simp; omega⟩
    rcases hor with d1 | ⟨d1, d2⟩
    all_goals
      go_wp2_with fail
      refine (F7.out hko w8).mono ?_
      rintro e w9 ⟨rfl, b9⟩
      have hb9 := hb8.trans (b9.mono hb8.size)
      go_wp2_with fail
      refine (live42_any _).mono ?_
      rintro e w10 ⟨rfl, b10⟩
      go_wp2_with fail
      go_ret
      exact ⟨rfl, hb9.trans (b10.mono hb9.size)⟩
  obtain ⟨m, rfl⟩ : ∃ m : Nat, k = m := ⟨k.toNat, by omega⟩
  have hmn : m ≤ n := by omega
  have d1 : decide ((m : Int) < 0) = false := by simp
  have d2 : decide ((n : Int) < (m : Int)) = false := by simp; omega
  have d3 : decide (n < m) = false := by simp; omega
  have hol := HON.out m
  go_wp2_with fail
  refine (F8.out m hmn w8 hb8).mono ?_
  rintro e w9 ⟨A9, c9, rfl, hs9, _, _, b9⟩
  have hb9 := hb8.trans (b9.mono hb8.size)
  have HS9 := Lib.hid hs9
  obtain ⟨q, hq⟩ : ∃ q, (openN l m).length = q := ⟨_, rfl⟩
  have HQ := Lib.hid hq
  rw [hq] at hol
  simp only [hq]
  clear hs9 hq
  go_wp2_with fail
  refine (F9.out m hmn w9 hb9).mono ?_
  rintro e w10 ⟨A10, c10, rfl, hs10, _, _, b10⟩
  have hb10 := hb9.trans (b10.mono hb9.size)
  have FT' := texts_any (openN l m) (openN l m) A9 A10 q q c9 c10 w10 HQ.out HQ.out (by omega) (by omega) (HS9.out.below b10) hs10
  rw [rowE_self sE_self] at FT'
  have FT := Lib.hid FT'
  have hq := HQ.out
  simp only [hq]
  clear hs10 hq FT'
  go_wp2_with fail
  refine FT.out.mono ?_
  rintro e w11 ⟨rfl, b11⟩
  have hb11 := hb10.trans (b11.mono hb10.size)
  go_wp2_with fail
  refine (live42_any _).mono ?_
  rintro e w12 ⟨rfl, b12⟩
  go_wp2_with fail
  go_ret
  exact ⟨rfl, hb11.trans (b12.mono hb11.size)⟩
end Go.Proofs.Ytoiplpmjocemfaa
