/- The walk of JoinTexts. -/
import Derived.Test.YtoiplpmjocemfaaJnr
import Derived.Test.YtoiplpmjocemfaaJnm
import Derived.Test.YtoiplpmjocemfaaEwc
namespace Go.Proofs.Ytoiplpmjocemfaa
open Go.ChangeShapes Go.WideShapes Go.ChangeAt Go.RowKit
set_option linter.unusedVariables false
set_option maxRecDepth 100000

set_option maxHeartbeats 8000000 in
theorem joinTexts_any (l : List Ev) (A : Option Addr) (n c : Nat) (w : World) (hl : l.length = n) (hnc : n ≤ c) (hc9 : c ≤ 9223372036854775807) (hn9 : n ≤ 400000) (ht : txLen l n ≤ 140737488355328) (hat : ∀ e ∈ l, e.at_.length ≤ 1000000) (hA : EvsOk w A l) :
    Calls Try.prog 8 #[.slice A n c] w fun e w' => e = .returned (.bool true) ∧ Below w.heap.size w w' := by
  have G1 := Lib.hid (great26_any l A n c w hl (by omega) hA)
  have F1 := Lib.hid (fun (w' : World) (hb : Below w.heap.size w w') => jall_any l A n c w' hl hnc hc9 (by omega) ht hat (hA.below hb))
  have HJL := joinA_len l
  rw [hl] at HJL
  have HTX := Lib.hid (fun (o' : List Ev) (h : o'.map nrm = (joinA l).map nrm) => (hl ▸ like_text h : textN o' o'.length = textN l n))
  have HTL := Lib.hid (fun (o' : List Ev) (h : o'.map nrm = (joinA l).map nrm) => (hl ▸ like_txLen h : txLen o' o'.length = txLen l n))
  have HLE := Lib.hid (fun (o' : List Ev) (h : o'.map nrm = (joinA l).map nrm) => (by rw [like_len h]; omega : o'.length ≤ 1000000))
  have HL := Lib.hid hl
  have HA := Lib.hid hA
  clear hl hA hat HJL
  go_enter Try.func8, Try.ntmps8
  go_wp2_with fail
  refine G1.out.mono ?_
  rintro e w1 ⟨b1, rfl, hb1⟩
  cases b1 with
  | true =>
    go_wp2_with fail
    refine (live37_any _).mono ?_
    rintro e w2 ⟨rfl, hb2⟩
    go_wp2_with fail
    go_ret
    exact ⟨rfl, hb1.trans (hb2.mono hb1.size)⟩
  | false =>
  go_wp2_with fail
  refine (F1.out w1 hb1).mono ?_
  rintro e w2 ⟨A2, c2, o1, rfl, hok1, ho1, hlc1, hc1, b2⟩
  have hb2 := hb1.trans (b2.mono hb1.size)
  have HOK1 := Lib.hid hok1
  have HO1 := Lib.hid ho1
  have HT1 := Lib.hid (HTX.out o1 ho1)
  have HT2 := Lib.hid (HTL.out o1 ho1)
  obtain ⟨q, hq⟩ : ∃ q, o1.length = q := ⟨_, rfl⟩
  have hq9 : q ≤ 1000000 := by have := HLE.out o1 ho1; omega
  have HQ := Lib.hid hq
  rw [hq] at HT1 HT2
  simp only [hq] at hlc1 ⊢
  clear hok1 ho1 hq G1 F1
  go_wp2_with fail
  go_loopw [3, 6] (fun v i wr => ∃ j : Nat, j ≤ n ∧ i = .int .i64 j ∧ v = .string ⟨(textN l j).toArray⟩ ∧ wr = w2) (fun _ i _ => n - (intOf i).toNat)
  case atStart => exact ⟨0, by omega, rfl, rfl, rfl⟩
  case round =>
    obtain ⟨j, hj, rfl, rfl, hwr⟩ := hrel
    obtain rfl : w2 = wr := hwr.symm
    by_cases hlt : j < n
    · obtain ⟨a, ha⟩ : ∃ a, l[j]? = some a := ⟨_, List.getElem?_eq_getElem (by rw [HL.out]; omega)⟩
      obtain ⟨x, rfl, x0, x1, x2, x3, x4⟩ := (HA.out.below hb2).sees.ev ha
      have HN := Lib.hid (textN_at ha)
      have h1 := textN_len l (j + 1)
      have h2 := txLen_mono l (show j + 1 ≤ n from hlt)
      have i0' : (0 : Int) ≤ (j : Int) := by omega
      have i1 : (j : Int) < (n : Int) := by omega
      clear ha x1 x2 x3
      by_cases hk1 : a.kind = 3
      · have t1 : (a.kind == 3) = true := by simpa using hk1
        have HS := Lib.hid (show textN l (j + 1) = textN l j ++ a.tx.toList by rw [HN.out, if_pos hk1])
        rw [HS.out, List.length_append] at h1
        obtain ⟨tx, htx⟩ : ∃ tx, a.tx.toList = tx := ⟨_, rfl⟩
        have hs : a.tx = ⟨tx.toArray⟩ := by rw [← htx]; exact str_eta _
        rw [hs] at x4
        rw [htx] at HS h1
        have h3 : ¬ 9223372036854775807 < (textN l j).length + tx.length := by omega
        clear hk1 htx hs h1 h2
        go_wp2_with fail
        go_roundw
        case rel => exact ⟨j + 1, by omega, by go_num, by rw [HS.out, ← tx_app], by first | rfl | trivial⟩
        case measure => simp [intOf]; omega
      · have t1 : (a.kind == 3) = false := by simpa using hk1
        have HS := Lib.hid (show textN l (j + 1) = textN l j by rw [HN.out, if_neg hk1, List.append_nil])
        clear hk1 h1 h2
        go_wp2_with fail
        go_roundw
        case rel => exact ⟨j + 1, by omega, by go_num, by rw [HS.out], by first | rfl | trivial⟩
        case measure => simp [intOf]; omega
    · obtain rfl : j = n := by omega
      have hn3 : ¬ ((j : Int) < (j : Int)) := by omega
      obtain ⟨tt, htt⟩ : ∃ tt, textN l j = tt := ⟨_, rfl⟩
      rw [htt] at HT1 ⊢
      clear htt
      go_wp2_with fail
      go_loopw [4, 7] (fun v i wr => ∃ k : Nat, k ≤ q ∧ i = .int .i64 k ∧ v = .string ⟨(textN o1 k).toArray⟩ ∧ wr = w2) (fun _ i _ => q - (intOf i).toNat)
      case atStart => exact ⟨0, by omega, rfl, rfl, rfl⟩
      case round =>
        obtain ⟨k, hk, rfl, rfl, hwr⟩ := hrel
        obtain rfl : w2 = wr := hwr.symm
        by_cases hlt2 : k < q
        · obtain ⟨a, ha⟩ : ∃ a, o1[k]? = some a := ⟨_, List.getElem?_eq_getElem (by rw [HQ.out]; omega)⟩
          obtain ⟨x, rfl, x0, x1, x2, x3, x4⟩ := HOK1.out.sees.ev ha
          have HN := Lib.hid (textN_at ha)
          have h1 := textN_len o1 (k + 1)
          have h2 := txLen_mono o1 (show k + 1 ≤ q from hlt2)
          have h4 := HT2.out
          have i0' : (0 : Int) ≤ (k : Int) := by omega
          have i1 : (k : Int) < (q : Int) := by omega
          clear x1 x2 x3
          by_cases hk1 : a.kind = 3
          · have t1 : (a.kind == 3) = true := by simpa using hk1
            obtain ⟨ht1, ht2⟩ := like_tidy HO1.out ha hk1
            have HP := Lib.hid ht2
            have HS := Lib.hid (show textN o1 (k + 1) = textN o1 k ++ a.tx.toList by rw [HN.out, if_pos hk1])
            rw [HS.out, List.length_append] at h1
            obtain ⟨tx, htx⟩ : ∃ tx, a.tx.toList = tx := ⟨_, rfl⟩
            have hs : a.tx = ⟨tx.toArray⟩ := by rw [← htx]; exact str_eta _
            rw [hs] at x4
            rw [htx] at HS h1 ht1
            have h3 : ¬ 9223372036854775807 < (textN o1 k).length + tx.length := by omega
            have e1 : tx.isEmpty = false := by simpa using ht1
            clear hk1 htx hs h1 h2 h4 ha ht2 ht1
            by_cases hk0 : k = 0
            · subst hk0
              have z0 : w2.cell? x = some (.int .i64 a.kind) := by simpa [Addr.add] using x0
              have z4 : w2.cell? ⟨x.block, x.off + 4, none⟩ = some (.string ⟨tx.toArray⟩) := by simpa [Addr.add] using x4
              go_wp2_with fail
              go_roundw
              case rel => exact ⟨1, by omega, rfl, by rw [HS.out, ← tx_app], by first | rfl | trivial⟩
              case measure => simp [intOf]; omega
            · obtain ⟨m, hm⟩ : ∃ m, k = m + 1 := ⟨k - 1, by omega⟩
              obtain ⟨y, hy⟩ : ∃ y, o1[m]? = some y := ⟨_, List.getElem?_eq_getElem (by rw [HQ.out]; omega)⟩
              obtain ⟨x', hx', y0, _⟩ := HOK1.out.sees.ev hy
              injection hx' with hx'
              subst hx'
              have t2 : (y.kind == 3) = false := by simpa using HP.out y (by omega) (by rw [hm]; exact hy)
              have d1 : (0 : Int) < (k : Int) := by omega
              have d2 : (k : Int) - 1 = (m : Int) := by omega
              have d3 : (0 : Int) ≤ (m : Int) := by omega
              have d4 : (m : Int) < (q : Int) := by omega
              have HM := Lib.hid hm
              clear hy hk0 hm
              go_wp2_with fail
              go_roundw
              case rel => exact ⟨k + 1, by omega, by go_num, by rw [HS.out, ← tx_app], by first | rfl | trivial⟩
              case measure => simp [intOf]; omega
          · have t1 : (a.kind == 3) = false := by simpa using hk1
            have HS := Lib.hid (show textN o1 (k + 1) = textN o1 k by rw [HN.out, if_neg hk1, List.append_nil])
            clear hk1 h1 h2 h4 ha
            go_wp2_with fail
            go_roundw
            case rel => exact ⟨k + 1, by omega, by go_num, by rw [HS.out], by first | rfl | trivial⟩
            case measure => simp [intOf]; omega
        · obtain rfl : k = q := by omega
          have hn3 : ¬ ((k : Int) < (k : Int)) := by omega
          have hT := HT1.out
          rw [hT]
          clear hT
          have P1 := Lib.hid (fun w' => putNone_any zeroE w')
          have P2 := Lib.hid (fun (w' : World) => putNil_any (textE []) w'.heap.size (w'.alloc (.cells #[.nilFunc, .slice none 0 0] 118)) (alloc_at _ _))
          have P3 := Lib.hid (fun (w' : World) => flushNil_any w'.heap.size (w'.alloc (.cells #[.nilFunc, .slice none 0 0] 118)) (alloc_at _ _))
          unfold evW zeroE at P1
          unfold evW textE at P2
          go_wp2_with fail
          refine (P1.out _).mono ?_
          rintro e w3 ⟨rfl, b3⟩
          have hb3 := hb2.trans (b3.mono hb2.size)
          go_wp2_with fail
          refine (flushNone_any _).mono ?_
          rintro e w4 ⟨rfl, b4⟩
          have hb4 := hb3.trans (b4.mono hb3.size)
          go_wp2_with fail
          refine (newNil_any _).mono ?_
          rintro e w5 ⟨rfl, rfl⟩
          go_wp2_with fail
          refine (P3.out _).mono ?_
          rintro e w6 ⟨rfl, b6⟩
          have hb4a := hb4.alloc hb4.size (.cells #[.nilFunc, .slice none 0 0] 118)
          have hb6 := hb4a.trans (b6.mono hb4a.size)
          go_wp2_with fail
          refine (newNil_any _).mono ?_
          rintro e w7 ⟨rfl, rfl⟩
          go_wp2_with fail
          refine (P2.out _).mono ?_
          rintro e w8 ⟨rfl, b8⟩
          have hb6a := hb6.alloc hb6.size (.cells #[.nilFunc, .slice none 0 0] 118)
          have hb8 := hb6a.trans (b8.mono hb6a.size)
          go_wp2_with fail
          refine (live37_any _).mono ?_
          rintro e w9 ⟨rfl, b9⟩
          go_wp2_with fail
          go_ret
          exact ⟨rfl, hb8.trans (b9.mono hb8.size)⟩
end Go.Proofs.Ytoiplpmjocemfaa
