/- All events handed on to Put, one by one. -/
import Derived.Test.YtoiplpmjocemfaaJnf
namespace Go.Proofs.Ytoiplpmjocemfaa
open Go.ChangeShapes Go.WideShapes Go.ChangeAt Go.RowKit
set_option linter.unusedVariables false
set_option maxRecDepth 100000

theorem flush_nrm {o o' : List Ev} {s : List UInt8} (h : o'.map nrm = o.map nrm) : (flushJ (o', s)).map nrm = (flushJ (o, s)).map nrm := by
  unfold flushJ
  split
  · exact h
  · simp only [List.map_append, h]
def EachRel (l : List Ev) (n b0 C J : Nat) (w : World) (i : Value) (wr : World) : Prop :=
  ∃ (j q dq m d : Nat) (B T : Option Addr) (o' : List Ev), j ≤ n ∧ i = .int .i64 j ∧ q ≤ 2 * j ∧ Hid (AllAt b0 C wr B q dq o') ∧ Hid (o'.map nrm = (joinN l j).1.map nrm) ∧ Hid (JoinAt b0 C J wr T m d (joinN l j).2) ∧ Below b0 w wr
def EachPost (l : List Ev) (n b0 C J : Nat) (w : World) (en : Ending) (w' : World) : Prop :=
  en = .returned (.int .i64 0) ∧ EachRel l n b0 C J w (.int .i64 n) w'

set_option maxHeartbeats 8000000 in
theorem each_any (l : List Ev) (A : Option Addr) (n c C J : Nat) (wB w : World) (hl : l.length = n) (hnc : n ≤ c) (hc9 : c ≤ 9223372036854775807) (hn9 : n ≤ 1000000) (ht : txLen l n ≤ 140737488355328) (hat : ∀ e ∈ l, e.at_.length ≤ 1000000) (hA : EvsOk wB A l)
    (hBw : Below wB.heap.size wB w) (hC : wB.heap.size ≤ C) (hJ : wB.heap.size ≤ J) (B T : Option Addr) (dq d : Nat) (ha : AllAt wB.heap.size C w B 0 dq []) (hj : JoinAt wB.heap.size C J w T 0 d []) :
    Calls Try.prog 72 #[.slice A n c, .func (.func 48) #[.pointer (some ⟨J, 0, none⟩)] #[]] w (EachPost l n wB.heap.size C J w) := by
  have HL := Lib.hid hl
  have HA := Lib.hid hA
  have HAT := Lib.hid hat
  have HAL := Lib.hid ha
  have HJO := Lib.hid hj
  clear hl hA hat ha hj
  go_enter Try.func72, Try.ntmps72
  go_wp2_with fail
  go_loopw [10] (fun i wr => EachRel l n wB.heap.size C J w i wr) (fun i _ => n - (intOf i).toNat)
  case atStart => exact ⟨0, 0, dq, 0, d, B, T, [], by omega, rfl, by omega, HAL, Lib.hid rfl, HJO, Below.refl _ _⟩
  case round =>
    obtain ⟨j, q, dq, m, d, B, T, o', hjn, rfl, hq, HAL, HMP, HJO, hbw⟩ := hrel
    have hBr := hBw.trans hbw
    have hws := hBr.size
    by_cases hlt : j < n
    · obtain ⟨a, ha⟩ : ∃ a, l[j]? = some a := ⟨_, List.getElem?_eq_getElem (by rw [HL.out]; omega)⟩
      obtain ⟨x, rfl, x0, x1, x2, x3, x4⟩ := (HA.out.below hBr).sees.ev ha
      have HN := Lib.hid (joinN_at ha)
      have hem := List.mem_of_getElem? ha
      have hbA := (Below.refl wr.heap.size wr).alloc (Nat.le_refl _) (.cells #[.int .i64 a.kind, .string a.sp, .string a.lo, .slice a.A a.at_.length a.c, .string a.tx] 76)
      have hBA := hBr.trans (hbA.mono hws)
      have i0 : (0 : Int) ≤ (j : Int) := by omega
      have i1 : (j : Int) < (n : Int) := by omega
      by_cases hk : a.kind = 3
      · have hS : joinN l (j + 1) = ((joinN l j).1, (joinN l j).2 ++ a.tx.toList) := by rw [HN.out]; unfold stepJ; rw [if_pos hk]
        have hlen := (joinN_len l (j + 1)).2
        have hmono := txLen_mono l (show j + 1 ≤ n from hlt)
        rw [hS] at hlen
        simp only [List.length_append] at hlen
        have hjl := HJO.out.len
        have KP := Lib.hid (putText_any a wB.heap.size C J B T q dq m d o' (joinN l j).2 a.tx.toList _ hC hJ (HAL.out.below hbA) (HJO.out.below hbA) hk (str_eta _) (by omega))
        unfold evW at KP
        have HS := Lib.hid hS
        clear ha hk hS hlen hmono hjl
        go_wp2_with fail
        refine KP.out.mono ?_
        rintro en w2 ⟨rfl, T2, m2, d2, ha2, hj2, hb2⟩
        have HA2 := Lib.hid ha2
        have HJ2 := Lib.hid hj2
        clear ha2 hj2
        go_wp2_with fail
        go_roundw
        case rel => exact ⟨j + 1, q, dq, m2, d2, B, T2, o', by omega, by go_num, by omega, HA2, Lib.hid (by rw [HS.out]; exact HMP.out), Lib.hid (by rw [HS.out]; exact HJ2.out), hbw.trans ((hbA.mono hws).trans hb2)⟩
        case measure => simp [intOf]; omega
      · have hS : joinN l (j + 1) = (flushJ (joinN l j) ++ [a], []) := by rw [HN.out]; unfold stepJ; rw [if_neg hk]
        have HOK := Lib.hid (fun w' (hb : Below wB.heap.size wB w') => (HA.out.below hb).each a hem)
        have KP := Lib.hid (putElse_any a wB.heap.size C J B T q dq m d o' (joinN l j).2 _ hC hJ (by simp; omega) (HAL.out.below hbA) (HJO.out.below hbA) hk (by omega) (HOK.out _ hBA) (fun w' hb => HOK.out w' (hBA.trans hb)) (HAT.out a hem))
        unfold evW at KP
        have HS := Lib.hid hS
        clear ha hk hS
        go_wp2_with fail
        refine KP.out.mono ?_
        rintro en w2 ⟨rfl, B2, q2, dq2, T2, m2, d2, o2, ha2, ho2, hq2, hj2, hb2⟩
        have HA2 := Lib.hid ha2
        have HJ2 := Lib.hid hj2
        have HO2 := Lib.hid ho2
        clear ha2 hj2 ho2
        go_wp2_with fail
        go_roundw
        case rel => exact ⟨j + 1, q2, dq2, m2, d2, B2, T2, o2, by omega, by go_num, by omega, HA2, Lib.hid (by rw [HS.out, HO2.out, List.map_append, List.map_append, flush_nrm HMP.out]), Lib.hid (by rw [HS.out]; exact HJ2.out), hbw.trans ((hbA.mono hws).trans hb2)⟩
        case measure => simp [intOf]; omega
    · obtain rfl : j = n := by omega
      go_wp2_with fail
      go_ret
      exact ⟨rfl, j, q, dq, m, d, B, T, o', Nat.le_refl _, rfl, hq, HAL, HMP, HJO, hbw⟩
end Go.Proofs.Ytoiplpmjocemfaa
