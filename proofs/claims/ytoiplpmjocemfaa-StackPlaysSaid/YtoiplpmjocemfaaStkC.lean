/- A stack behind a pointer: Pop; what is told of no stack; the page's example; the walks of two statements. -/
import Derived.Test.YtoiplpmjocemfaaStkB
namespace Go.Proofs.Ytoiplpmjocemfaa
open Go.ChangeShapes Go.WideShapes Go.ChangeAt Go.RowKit
set_option linter.unusedVariables false

set_option maxRecDepth 100000 in
set_option maxHeartbeats 1000000 in
theorem stkPop_some (w : World) (p : Nat) (room x : Int) (xs : List Int) (h : Stk w p room (xs ++ [x])) (hb : xs.length < 1099511627775) :
    Calls Try.prog 19 #[.pointer (some ⟨p, 0, none⟩)] w fun e w' => e = .returned (.tuple #[.int .i64 x, .bool true]) ∧ Stk w' p room xs ∧ Below p w w' := by
  have HT := Lib.hid (stkTop_some w p room x xs h (by omega))
  obtain ⟨A, c, h'⟩ := h
  have hplt := h'.lt
  obtain ⟨n, hn⟩ : ∃ n, xs.length = n := ⟨_, rfl⟩
  have hn1 : (xs ++ [x]).length = n + 1 := by simp [hn]
  rw [hn1] at h'
  rw [hn] at hb
  have HC := Lib.hid (fun (w : World) (hw : Stk w p room (xs ++ [x])) => stkCut_to w p room (n : Int) n (xs ++ [x]) hw (by omega) (by omega) (.inl rfl))
  have HX := Lib.hid (show (xs ++ [x]).take n = xs by rw [← hn]; simp)
  have HN := Lib.hid hn1
  have HS := Lib.hid h'
  clear h' hn hn1
  go_enter Try.func19, Try.ntmps19
  go_wp2_with (go_at_call 22; refine HT.out.mono ?_; rintro e w1 ⟨rfl, hb1⟩; have h1 := HS.out.below hb1; have k1 := (cell_of_two h1.blk).2.2; have H1 := Lib.hid h1; clear h1)
  refine (HC.out _ ⟨A, c, by rw [HN.out]; exact H1.out⟩).mono ?_
  rintro e w2 ⟨rfl, hs2, hb2⟩
  rw [HX.out] at hs2
  have H2 := Lib.hid hs2
  clear hs2
  go_wp2_with fail
  go_ret2
  exact ⟨rfl, H2.out, (hb1.mono (Nat.le_of_lt hplt)).trans hb2⟩

set_option maxHeartbeats 400000 in
theorem stkLen_nil (w : World) : Calls Try.prog 26 #[.pointer none] w fun e w' => e = .returned (.int .i64 0) ∧ w = w' := by
  go_enter Try.func26, Try.ntmps26
  go_wp2
  go_ret
  exact ⟨rfl, rfl⟩
set_option maxHeartbeats 400000 in
theorem stkTop_nil (w : World) : Calls Try.prog 22 #[.pointer none] w fun e w' => e = .returned (.tuple #[.int .i64 0, .bool false]) ∧ w = w' := by
  go_enter Try.func22, Try.ntmps22
  go_wp2_with (go_at_call 26; refine (stkLen_nil _).mono ?_; rintro e w' ⟨rfl, rfl⟩)
  go_ret2
  exact ⟨rfl, rfl⟩
set_option maxHeartbeats 400000 in
theorem stkPop_nil (w : World) : Calls Try.prog 19 #[.pointer none] w fun e w' => e = .returned (.tuple #[.int .i64 0, .bool false]) ∧ w = w' := by
  go_enter Try.func19, Try.ntmps19
  go_wp2_with (go_at_call 22; refine (stkTop_nil _).mono ?_; rintro e w' ⟨rfl, rfl⟩)
  go_ret2
  exact ⟨rfl, rfl⟩
set_option maxHeartbeats 400000 in
theorem stkPop_none (w : World) (p : Nat) (room : Int) (h : Stk w p room []) : Calls Try.prog 19 #[.pointer (some ⟨p, 0, none⟩)] w fun e w' => e = .returned (.tuple #[.int .i64 0, .bool false]) ∧ w = w' := by
  have HT := Lib.hid (stkTop_none w p room h)
  go_enter Try.func19, Try.ntmps19
  go_wp2_with (go_at_call 22; refine HT.out.mono ?_; rintro e w' ⟨rfl, rfl⟩)
  go_ret2
  exact ⟨rfl, rfl⟩
set_option maxHeartbeats 400000 in
theorem stkCut_nil (w : World) (k : Int) : Calls Try.prog 21 #[.pointer none, .int .i64 k] w fun e w' => e = .returned (.tuple #[]) ∧ w = w' := by
  go_enter Try.func21, Try.ntmps21
  go_wp2
  refine bodyPost_ret (results_none rfl _ _ _) rfl ?_
  exact ⟨rfl, rfl⟩
set_option maxHeartbeats 400000 in
theorem stkPush_nil (w : World) (k : Int) : Calls Try.prog 17 #[.pointer none, .int .i64 k] w fun e w' => e = .returned (.int .i64 1) ∧ w = w' := by
  go_enter Try.func17, Try.ntmps17
  go_wp2
  go_ret
  exact ⟨rfl, rfl⟩

set_option maxRecDepth 100000 in
set_option maxHeartbeats 1000000 in
theorem live12_any (w : World) : Calls Try.prog 12 #[] w fun e w' => e = .returned (.bool true) ∧ Below w.heap.size w w' := by
  go_enter Try.func12, Try.ntmps12
  go_wp2_with fail
  refine (stkNew_any 2 _ (by omega) (by omega)).mono ?_
  rintro e w1 ⟨rfl, hs1, hb1⟩
  have H1 := Lib.hid hs1
  clear hs1
  go_wp2_with fail
  refine (stkPush_room w1 _ 2 1 [] H1.out (by simp) (by simp)).mono ?_
  rintro e w2 ⟨rfl, hs2, hb2⟩
  have H2 := Lib.hid hs2
  clear hs2
  go_wp2_with fail
  refine (stkPush_room w2 _ 2 2 [1] H2.out (by simp) (by simp)).mono ?_
  rintro e w3 ⟨rfl, hs3, hb3⟩
  have H3 := Lib.hid hs3
  clear hs3
  go_wp2_with fail
  refine (stkPush_full w3 _ 2 3 [1, 2] H3.out (by simp)).mono ?_
  rintro e w4 ⟨rfl, hs4, hb4⟩
  have H4 := Lib.hid hs4
  clear hs4
  go_wp2_with fail
  refine (stkPop_some w4 _ 2 2 [1] H4.out (by simp)).mono ?_
  rintro e w5 ⟨rfl, hs5, hb5⟩
  have H5 := Lib.hid hs5
  clear hs5
  go_wp2_with (go_at_call 26; refine (stkLen_any _ _ _ _ H5.out).mono ?_; rintro e w' ⟨rfl, rfl⟩)
  go_ret
  exact ⟨rfl, (((hb1.trans hb2).trans hb3).trans (hb4.mono (by have := hb1.size; have := hb2.size; have := hb3.size; omega))).trans hb5⟩

end Go.Proofs.Ytoiplpmjocemfaa
