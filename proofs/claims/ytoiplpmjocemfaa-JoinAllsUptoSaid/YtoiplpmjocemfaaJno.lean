/- The walk of JoinAlls. -/
import Derived.Test.YtoiplpmjocemfaaJnk
import Derived.Test.YtoiplpmjocemfaaJnl
import Derived.Test.YtoiplpmjocemfaaEwc
namespace Go.Proofs.Ytoiplpmjocemfaa
open Go.ChangeShapes Go.WideShapes Go.ChangeAt Go.RowKit
set_option linter.unusedVariables false
set_option maxRecDepth 100000

set_option maxHeartbeats 8000000 in
theorem joinAlls_any (l : List Ev) (A : Option Addr) (n c : Nat) (w : World) (hl : l.length = n) (hnc : n ≤ c) (hc9 : c ≤ 9223372036854775807) (hn9 : n ≤ 400000) (ht : txLen l n ≤ 140737488355328) (hat : ∀ e ∈ l, e.at_.length ≤ 1000000) (hA : EvsOk w A l) :
    Calls Try.prog 6 #[.slice A n c] w fun e w' => e = .returned (.bool true) ∧ Below w.heap.size w w' := by
  have G1 := Lib.hid (great26_any l A n c w hl (by omega) hA)
  have F1 := Lib.hid (fun (w' : World) (hb : Below w.heap.size w w') => jall_any l A n c w' hl hnc hc9 (by omega) ht hat (hA.below hb))
  have F2 := Lib.hid (fun (w' : World) (hb : Below w.heap.size w w') => rjoin_any l A n c w' hl hnc hc9 (by omega) (by omega) (hA.below hb))
  have HJL := joinA_len l
  rw [hl] at HJL
  have HTL : ∀ o' : List Ev, o'.map nrm = (joinA l).map nrm → txLen o' o'.length ≤ 140737488355328 := fun o' h => by rw [like_txLen h, hl]; exact ht
  have F3 := Lib.hid (fun (o' : List Ev) (h : o'.map nrm = (joinA l).map nrm) (A' : Option Addr) (c' : Nat) (w' : World) (h1 : o'.length ≤ c') (h2 : c' ≤ 9223372036854775807) (hok : EvsOk w' A' o') => jall_any o' A' o'.length c' w' rfl h1 h2 (by rw [like_len h]; omega) (HTL o' h) (like_at h hat) hok)
  have F4 := Lib.hid (fun (o' : List Ev) (h : o'.map nrm = (joinA l).map nrm) => like_len h)
  have HLN : (joinA l).length ≤ 1000000 := by omega
  clear hl hA hat ht HJL HTL
  obtain ⟨o, ho⟩ : ∃ o, joinA l = o := ⟨_, rfl⟩
  have HAG : Hid (joinA o = o) := by rw [← ho]; exact joinA_again l
  rw [ho] at F1 F2 F3 F4 HLN
  clear ho
  go_enter Try.func6, Try.ntmps6
  go_wp2_with fail
  refine G1.out.mono ?_
  rintro e w1 ⟨b1, rfl, hb1⟩
  cases b1 with
  | true =>
    go_wp2_with fail
    refine (live37_any _).mono ?_
    rintro e w2 ⟨rfl, hb2⟩
    go_wp2_with fail
    go_ret
    exact ⟨rfl, hb1.trans (hb2.mono hb1.size)⟩
  | false =>
  go_wp2_with fail
  refine (F1.out w1 hb1).mono ?_
  rintro e w2 ⟨A2, c2, o1, rfl, hok1, ho1, hlc1, hc1, b2⟩
  have hb2 := hb1.trans (b2.mono hb1.size)
  have HLE := Lib.hid (F4.out o1 ho1)
  have HOK1 := Lib.hid hok1
  have HO1 := Lib.hid ho1
  have F5 := Lib.hid (fun (w' : World) (hb : Below w2.heap.size w2 w') => F3.out o1 ho1 A2 c2 w' hlc1 hc1 (hok1.below hb))
  obtain ⟨q, hq⟩ : ∃ q, o1.length = q := ⟨_, rfl⟩
  have HQ := Lib.hid hq
  have HOQ := Lib.hid (HLE.out.symm.trans hq)
  have hq9 : q ≤ 1000000 := by have := HOQ.out; omega
  simp only [hq] at F5 hlc1 ⊢
  clear hok1 ho1 hq HLN
  go_wp2_with fail
  refine (F2.out w2 hb2).mono ?_
  rintro e w3 ⟨A3, c3, rfl, hok3, hlc3, hc3, b3⟩
  have hb3 := hb2.trans (b3.mono hb2.size)
  have S1' := same_any o1 o A2 A3 q q c2 c3 w3 HQ.out HOQ.out (by omega) (by omega) (HOK1.out.below b3) hok3
  rw [like_same HO1.out] at S1'
  have S1 := Lib.hid S1'
  have hoq := HOQ.out
  simp only [hoq]
  clear hok3 S1' hoq hlc3
  go_wp2_with fail
  refine S1.out.mono ?_
  rintro e w4 ⟨rfl, b4⟩
  have hb4 := hb3.trans (b4.mono hb3.size)
  have hb24 := b3.trans (b4.mono b3.size)
  go_wp2_with fail
  refine (F5.out w4 hb24).mono ?_
  rintro e w5 ⟨A5, c5, o5, rfl, hok5, ho5, hlc5, hc5, b5⟩
  have hb5 := hb4.trans (b5.mono hb4.size)
  have ho51 : o5.map nrm = o1.map nrm := by rw [ho5, joinA_like HO1.out, HAG.out, HO1.out]
  have hl5 : o5.length = q := by rw [like_len ho51, HQ.out]
  have S2' := same_any o5 o1 A5 A2 q q c5 c2 w5 hl5 HQ.out (by omega) (by omega) hok5 (HOK1.out.below (hb24.trans (b5.mono hb24.size)))
  rw [like_same ho51] at S2'
  have S2 := Lib.hid S2'
  simp only [hl5]
  clear hok5 ho5 ho51 S2' hlc5 hl5
  go_wp2_with fail
  refine S2.out.mono ?_
  rintro e w6 ⟨rfl, b6⟩
  have hb6 := hb5.trans (b6.mono hb5.size)
  go_wp2_with fail
  refine (live37_any _).mono ?_
  rintro e w7 ⟨rfl, b7⟩
  go_wp2_with fail
  go_ret
  exact ⟨rfl, hb6.trans (b7.mono hb6.size)⟩
end Go.Proofs.Ytoiplpmjocemfaa
