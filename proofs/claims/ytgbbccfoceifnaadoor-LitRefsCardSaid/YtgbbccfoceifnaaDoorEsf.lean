/- Escape and Digits, by the document. -/
import Derived.Test.YtgbbccfoceifnaaDoorEsc
import Derived.Test.YtgbbccfoceifnaaDoorNamg
import Derived.Lib.ItoaNum
import Derived.Lib.ItoaLen
import Derived.Lib.ItoaMem
namespace Go.Proofs.YtgbbccfoceifnaaDoor
open Go.ChangeShapes Go.WideShapes Go.ChangeAt Go.RowKit
set_option linter.unusedVariables false
set_option maxRecDepth 100000

theorem ret_str {a b : ByteArray} (h : a = b) : Ending.returned (.string a) = .returned (.string b) := by rw [h]
theorem dig_piece (j : Nat) (hj : j < 10) : (⟨#[48, 49, 50, 51, 52, 53, 54, 55, 56, 57]⟩ : ByteArray).extract j (j + 1) = ⟨[UInt8.ofNat (48 + j)].toArray⟩ := by
  rw [str_extract]
  congr 1
  match j, hj with
  | 0, _ => rfl
  | 1, _ => rfl
  | 2, _ => rfl
  | 3, _ => rfl
  | 4, _ => rfl
  | 5, _ => rfl
  | 6, _ => rfl
  | 7, _ => rfl
  | 8, _ => rfl
  | 9, _ => rfl
/-- At the loop's head: what is left of the number, and its digits so far. -/
def DigsRel (D : List UInt8) (n s : Value) : Prop := ∃ (m : Nat) (t : List UInt8), m ≤ 4611686018427387904 ∧ n = .int .i64 m ∧ s = .string ⟨t.toArray⟩ ∧ Lib.decDigits m ++ t = D
theorem digsRel_mk {D : List UInt8} {n : Int} {s : ByteArray} (m : Nat) (t : List UInt8) (h0 : m ≤ 4611686018427387904) (h1 : n = m) (h2 : s = ⟨t.toArray⟩) (h3 : Lib.decDigits m ++ t = D) : DigsRel D (.int .i64 n) (.string s) :=
  ⟨m, t, h0, by rw [h1], by rw [h2], h3⟩

set_option maxHeartbeats 1000000 in
theorem rdigits_any (n : Nat) (w : World) (hn : n ≤ 4611686018427387904) :
    Calls Tryd.prog 76 #[.int .i64 (n : Int)] w fun e w' => e = .returned (strV (Lib.decDigits n)) ∧ w = w' := by
  obtain ⟨D, hD⟩ : ∃ D, Lib.decDigits n = D := ⟨_, rfl⟩
  have HD := Lib.hid hD
  have hDl : D.length ≤ 21 := by
    have := Lib.itoa_length_le (n : Int) (by omega) (by omega)
    rwa [Lib.itoa_nonneg, hD] at this
  rw [hD]
  clear hD
  go_enter Tryd.func76, Tryd.ntmps76
  go_wp2_with fail
  go_loop [0, 3] (fun n s => DigsRel D n s) (fun n _ => (intOf n).toNat)
  case atStart => exact digsRel_mk n [] hn rfl rfl (by rw [List.append_nil]; exact HD.out)
  case round =>
    obtain ⟨m, u, hm, rfl, rfl, hr⟩ := hrel
    have hul : u.length ≤ 21 := by have := congrArg List.length hr; rw [List.length_append] at this; omega
    have HR := Lib.hid hr
    clear hr
    by_cases h9 : 9 < m
    · have hq : ((m : Int) % 10).toNat = m % 10 := by omega
      have hq1 : ((m : Int) % 10 + 1).toNat = m % 10 + 1 := by omega
      have HP := Lib.hid (dig_piece (m % 10) (by omega))
      have hov : ¬ 9223372036854775807 < min (m % 10 + 1) 10 - m % 10 + u.length := by omega
      go_wp2_with fail
      go_round
      case rel =>
        refine digsRel_mk (m / 10) (UInt8.ofNat (48 + m % 10) :: u) (by omega) (by omega) (by rw [HP.out, str_app]; rfl) ?_
        have h := HR.out
        rw [Lib.decDigits, dif_neg (by omega), List.append_assoc] at h
        exact h
      case measure => simp [intOf]; omega
    · have hov : ¬ 9223372036854775807 < min (m + 1) 10 - m + u.length := by omega
      have HP := Lib.hid (dig_piece m (by omega))
      have HE := Lib.hid (show [UInt8.ofNat (48 + m)] ++ u = D by have h := HR.out; rw [Lib.decDigits, dif_pos (by omega)] at h; exact h)
      go_wp2_with fail
      go_ret
      exact ⟨ret_str (by rw [HP.out, str_app, HE.out]), rfl⟩

/-- At the loop's head: what is escaped so far. -/
def EscD (l : List UInt8) (s i : Value) : Prop := ∃ k : Nat, k ≤ l.length ∧ i = .int .i64 k ∧ s = .string ⟨(escL (l.take k)).toArray⟩
theorem escD_mk {l : List UInt8} {s : ByteArray} {i : Int} (k : Nat) (h1 : k ≤ l.length) (h2 : i = k) (h3 : s = ⟨(escL (l.take k)).toArray⟩) : EscD l (.string s) (.int .i64 i) :=
  ⟨k, h1, by rw [h2], by rw [h3]⟩

set_option maxHeartbeats 4000000 in
theorem rescape_any (l : List UInt8) (w : World) (hl : l.length ≤ 1000000) :
    Calls Tryd.prog 26 #[strV l] w fun e w' => e = .returned (strV (escL l)) ∧ w = w' := by
  have HSZ := str_size l
  go_enter Tryd.func26, Tryd.ntmps26
  go_wp2_with fail
  go_loop [3, 4] (fun s i => EscD l s i) (fun _ i => l.length - (intOf i).toNat)
  case atStart => exact escD_mk 0 (by omega) rfl rfl
  case round =>
    obtain ⟨k, hk, rfl, rfl⟩ := hrel
    have hel := escL_le (l.take k)
    rw [List.length_take] at hel
    by_cases hlt : k < l.length
    · have hix := str_idx l k hlt
      have hsn := escL_snoc l k hlt
      obtain ⟨q, hq⟩ : ∃ q, (escL (l.take k)).length = q := ⟨_, rfl⟩
      rw [hq] at hel
      obtain ⟨E, hE⟩ : ∃ E, escL (l.take k) = E := ⟨_, rfl⟩
      rw [hE] at hsn hq ⊢
      have HQ := hq
      clear hE hq
      have h1 : (l.drop k).take 1 = [UInt8.ofNat (byteAt l k)] := by
        rw [List.drop_eq_getElem_cons hlt, List.take_succ_cons, List.take_zero]
        unfold byteAt
        rw [List.getElem?_eq_getElem hlt]
        simp
      obtain ⟨c, hc⟩ : ∃ c, byteAt l k = c := ⟨_, rfl⟩
      have hc9 := byteAt_lt l k
      rw [hc] at hix hsn hc9 h1
      have H1 := Lib.hid h1
      clear hc h1
      by_cases h38 : c = 38
      · subst h38
        rw [show escB 38 = [38, 97, 109, 112, 59] from rfl] at hsn
        have HSN := Lib.hid hsn
        have hov : ¬ 9223372036854775807 < E.length + 5 := by omega
        clear hsn
        go_wp2_with fail
        go_round
        case rel => exact escD_mk (k + 1) (by omega) (by omega) (by rw [HSN.out, ← str_app])
        case measure => simp [intOf]; omega
      have t38 : ((c : Int) == 38) = false := by simp; omega
      by_cases h60 : c = 60
      · subst h60
        rw [show escB 60 = [38, 108, 116, 59] from rfl] at hsn
        have HSN := Lib.hid hsn
        have hov : ¬ 9223372036854775807 < E.length + 4 := by omega
        clear hsn
        go_wp2_with fail
        go_round
        case rel => exact escD_mk (k + 1) (by omega) (by omega) (by rw [HSN.out, ← str_app])
        case measure => simp [intOf]; omega
      have t60 : ((c : Int) == 60) = false := by simp; omega
      by_cases h62 : c = 62
      · subst h62
        rw [show escB 62 = [38, 103, 116, 59] from rfl] at hsn
        have HSN := Lib.hid hsn
        have hov : ¬ 9223372036854775807 < E.length + 4 := by omega
        clear hsn
        go_wp2_with fail
        go_round
        case rel => exact escD_mk (k + 1) (by omega) (by omega) (by rw [HSN.out, ← str_app])
        case measure => simp [intOf]; omega
      have t62 : ((c : Int) == 62) = false := by simp; omega
      by_cases h34 : c = 34
      · subst h34
        rw [show escB 34 = [38, 113, 117, 111, 116, 59] from rfl] at hsn
        have HSN := Lib.hid hsn
        have hov : ¬ 9223372036854775807 < E.length + 6 := by omega
        clear hsn
        go_wp2_with fail
        go_round
        case rel => exact escD_mk (k + 1) (by omega) (by omega) (by rw [HSN.out, ← str_app])
        case measure => simp [intOf]; omega
      have t34 : ((c : Int) == 34) = false := by simp; omega
      by_cases h13 : c = 13
      · subst h13
        rw [show escB 13 = [38, 35, 49, 51, 59] from rfl] at hsn
        have HSN := Lib.hid hsn
        have hov : ¬ 9223372036854775807 < E.length + 2 := by omega
        have hov2 : ¬ 9223372036854775807 < E.length + 2 + 2 := by omega
        have hov3 : ¬ 9223372036854775807 < E.length + 2 + 2 + 1 := by omega
        have HI := Lib.hid ((show Lib.decDigits 13 = [49, 51] from (by rw [Lib.decDigits_two (by omega) (by omega)]; rfl)) ▸ rdigits_any 13 w (by omega))
        clear hsn
        go_wp2_with fail
        refine HI.out.mono ?_
        rintro e w1 ⟨rfl, rfl⟩
        go_wp2_with fail
        go_round
        case rel => exact escD_mk (k + 1) (by omega) (by omega) (by rw [HSN.out, str_app, str_app, str_app]; simp)
        case measure => simp [intOf]; omega
      have t13 : ((c : Int) == 13) = false := by simp; omega
      by_cases h10 : c = 10
      · subst h10
        rw [show escB 10 = [38, 35, 49, 48, 59] from rfl] at hsn
        have HSN := Lib.hid hsn
        have hov : ¬ 9223372036854775807 < E.length + 2 := by omega
        have hov2 : ¬ 9223372036854775807 < E.length + 2 + 2 := by omega
        have hov3 : ¬ 9223372036854775807 < E.length + 2 + 2 + 1 := by omega
        have HI := Lib.hid ((show Lib.decDigits 10 = [49, 48] from (by rw [Lib.decDigits_two (by omega) (by omega)]; rfl)) ▸ rdigits_any 10 w (by omega))
        clear hsn
        go_wp2_with fail
        refine HI.out.mono ?_
        rintro e w1 ⟨rfl, rfl⟩
        go_wp2_with fail
        go_round
        case rel => exact escD_mk (k + 1) (by omega) (by omega) (by rw [HSN.out, str_app, str_app, str_app]; simp)
        case measure => simp [intOf]; omega
      have t10 : ((c : Int) == 10) = false := by simp; omega
      by_cases h9 : c = 9
      · subst h9
        rw [show escB 9 = [38, 35, 57, 59] from rfl] at hsn
        have HSN := Lib.hid hsn
        have hov : ¬ 9223372036854775807 < E.length + 2 := by omega
        have hov2 : ¬ 9223372036854775807 < E.length + 2 + 1 := by omega
        have hov3 : ¬ 9223372036854775807 < E.length + 2 + 1 + 1 := by omega
        have HI := Lib.hid ((show Lib.decDigits 9 = [57] from (by rw [Lib.decDigits_one (by omega)]; rfl)) ▸ rdigits_any 9 w (by omega))
        clear hsn
        go_wp2_with fail
        refine HI.out.mono ?_
        rintro e w1 ⟨rfl, rfl⟩
        go_wp2_with fail
        go_round
        case rel => exact escD_mk (k + 1) (by omega) (by omega) (by rw [HSN.out, str_app, str_app, str_app]; simp)
        case measure => simp [intOf]; omega
      have t9 : ((c : Int) == 9) = false := by simp; omega
      rw [show escB c = [UInt8.ofNat c] from by unfold escB; rw [if_neg h38, if_neg h60, if_neg h62, if_neg h34, if_neg h13, if_neg h10, if_neg h9]] at hsn
      have HSN := Lib.hid hsn
      have hov : ¬ 9223372036854775807 < E.length + (min (k + 1) l.length - k) := by omega
      clear hsn
      go_wp2_with fail
      go_round
      case rel => exact escD_mk (k + 1) (by omega) (by omega) (by rw [HSN.out, str_extract, str_app, Nat.add_sub_cancel_left, H1.out])
      case measure => simp [intOf]; omega
    · obtain rfl : k = l.length := by omega
      rw [List.take_length]
      go_wp2_with fail
      go_ret
      exact ⟨rfl, rfl⟩
end Go.Proofs.YtgbbccfoceifnaaDoor
