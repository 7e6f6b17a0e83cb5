/- Which names are reserved: the document's answer. -/
import Derived.Test.YtggllkcoabeejaaDoorMil
namespace Go.Proofs.YtggllkcoabeejaaDoor
open Go.ChangeShapes Go.WideShapes Go.ChangeAt Go.RowKit
set_option linter.unusedVariables false
set_option linter.unusedSimpArgs false
set_option maxRecDepth 100000

set_option maxHeartbeats 4000000 in
theorem rreserved_any (l : List UInt8) (w : World) : Calls Tryd.prog 19 #[strV l] w fun e w' => e = .returned (.bool (resB l)) ∧ w = w' := by
  have hsz := str_size l
  by_cases h3 : l.length = 3
  rotate_left
  · have t1 : ((l.length : Int) != 3) = true := by simp; omega
    rw [show resB l = false by unfold resB; rw [decide_eq_false_iff_not]; exact fun h => h3 h.1]
    go_enter Tryd.func19, Tryd.ntmps19
    go_wp2_with fail
    go_ret
    exact ⟨rfl, rfl⟩
  · have t1 : ((l.length : Int) != 3) = false := by simp; omega
    have x0 : ∀ W : World, (Instr.index 9 (strV l) (.int .i64 (0 : Int))).run Tryd.prog W = .ok (.int .u8 (byteAt l 0 : Int)) W := fun W => str_idx l 0 (by omega) W
    have x1 : ∀ W : World, (Instr.index 9 (strV l) (.int .i64 (1 : Int))).run Tryd.prog W = .ok (.int .u8 (byteAt l 1 : Int)) W := fun W => str_idx l 1 (by omega) W
    have x2 : ∀ W : World, (Instr.index 9 (strV l) (.int .i64 (2 : Int))).run Tryd.prog W = .ok (.int .u8 (byteAt l 2 : Int)) W := fun W => str_idx l 2 (by omega) W
    obtain ⟨d0, hd0⟩ : ∃ d, byteAt l 0 = d := ⟨_, rfl⟩
    obtain ⟨d1, hd1⟩ : ∃ d, byteAt l 1 = d := ⟨_, rfl⟩
    obtain ⟨d2, hd2⟩ : ∃ d, byteAt l 2 = d := ⟨_, rfl⟩
    have HR : Hid (resB l = decide ((d0 = 120 ∨ d0 = 88) ∧ (d1 = 109 ∨ d1 = 77) ∧ (d2 = 108 ∨ d2 = 76))) := by
      unfold Hid resB
      rw [hd0, hd1, hd2]
      simp [h3]
    rw [hd0] at x0
    rw [hd1] at x1
    rw [hd2] at x2
    clear hd0 hd1 hd2
    by_cases h0a : d0 = 120
    · have t0a : ((d0 : Int) == 120) = true := by simp; omega
      by_cases h1a : d1 = 109
      · have t1a : ((d1 : Int) == 109) = true := by simp; omega
        by_cases h2a : d2 = 108
        · have t2a : ((d2 : Int) == 108) = true := by simp; omega
          have HC := Lib.hid (show resB l = true by rw [HR.out]; simp; try omega)
          clear HR
          go_enter Tryd.func19, Tryd.ntmps19
          go_wp2_with fail
          go_ret
          exact ⟨ret_bool HC.out.symm, rfl⟩
        · have t2a : ((d2 : Int) == 108) = false := by simp; omega
          by_cases h2b : d2 = 76
          · have t2b : ((d2 : Int) == 76) = true := by simp; omega
            have HC := Lib.hid (show resB l = true by rw [HR.out]; simp; try omega)
            clear HR
            go_enter Tryd.func19, Tryd.ntmps19
            go_wp2_with fail
            go_ret
            exact ⟨ret_bool HC.out.symm, rfl⟩
          · have t2b : ((d2 : Int) == 76) = false := by simp; omega
            have HC := Lib.hid (show resB l = false by rw [HR.out]; simp; try omega)
            clear HR
            go_enter Tryd.func19, Tryd.ntmps19
            go_wp2_with fail
            go_ret
            exact ⟨ret_bool HC.out.symm, rfl⟩
      · have t1a : ((d1 : Int) == 109) = false := by simp; omega
        by_cases h1b : d1 = 77
        · have t1b : ((d1 : Int) == 77) = true := by simp; omega
          by_cases h2a : d2 = 108
          · have t2a : ((d2 : Int) == 108) = true := by simp; omega
            have HC := Lib.hid (show resB l = true by rw [HR.out]; simp; try omega)
            clear HR
            go_enter Tryd.func19, Tryd.ntmps19
            go_wp2_with fail
            go_ret
            exact ⟨ret_bool HC.out.symm, rfl⟩
          · have t2a : ((d2 : Int) == 108) = false := by simp; omega
            by_cases h2b : d2 = 76
            · have t2b : ((d2 : Int) == 76) = true := by simp; omega
              have HC := Lib.hid (show resB l = true by rw [HR.out]; simp; try omega)
              clear HR
              go_enter Tryd.func19, Tryd.ntmps19
              go_wp2_with fail
              go_ret
              exact ⟨ret_bool HC.out.symm, rfl⟩
            · have t2b : ((d2 : Int) == 76) = false := by simp; omega
              have HC := Lib.hid (show resB l = false by rw [HR.out]; simp; try omega)
              clear HR
              go_enter Tryd.func19, Tryd.ntmps19
              go_wp2_with fail
              go_ret
              exact ⟨ret_bool HC.out.symm, rfl⟩
        · have t1b : ((d1 : Int) == 77) = false := by simp; omega
          have HC := Lib.hid (show resB l = false by rw [HR.out]; simp; try omega)
          clear HR
          go_enter Tryd.func19, Tryd.ntmps19
          go_wp2_with fail
          go_ret
          exact ⟨ret_bool HC.out.symm, rfl⟩
    · have t0a : ((d0 : Int) == 120) = false := by simp; omega
      by_cases h0b : d0 = 88
      · have t0b : ((d0 : Int) == 88) = true := by simp; omega
        by_cases h1a : d1 = 109
        · have t1a : ((d1 : Int) == 109) = true := by simp; omega
          by_cases h2a : d2 = 108
          · have t2a : ((d2 : Int) == 108) = true := by simp; omega
            have HC := Lib.hid (show resB l = true by rw [HR.out]; simp; try omega)
            clear HR
            go_enter Tryd.func19, Tryd.ntmps19
            go_wp2_with fail
            go_ret
            exact ⟨ret_bool HC.out.symm, rfl⟩
          · have t2a : ((d2 : Int) == 108) = false := by simp; omega
            by_cases h2b : d2 = 76
            · have t2b : ((d2 : Int) == 76) = true := by simp; omega
              have HC := Lib.hid (show resB l = true by rw [HR.out]; simp; try omega)
              clear HR
              go_enter Tryd.func19, Tryd.ntmps19
              go_wp2_with fail
              go_ret
              exact ⟨ret_bool HC.out.symm, rfl⟩
            · have t2b : ((d2 : Int) == 76) = false := by simp; omega
              have HC := Lib.hid (show resB l = false by rw [HR.out]; simp; try omega)
              clear HR
              go_enter Tryd.func19, Tryd.ntmps19
              go_wp2_with fail
              go_ret
              exact ⟨ret_bool HC.out.symm, rfl⟩
        · have t1a : ((d1 : Int) == 109) = false := by simp; omega
          by_cases h1b : d1 = 77
          · have t1b : ((d1 : Int) == 77) = true := by simp; omega
            by_cases h2a : d2 = 108
            · have t2a : ((d2 : Int) == 108) = true := by simp; omega
              have HC := Lib.hid (show resB l = true by rw [HR.out]; simp; try omega)
              clear HR
              go_enter Tryd.func19, Tryd.ntmps19
              go_wp2_with fail
              go_ret
              exact ⟨ret_bool HC.out.symm, rfl⟩
            · have t2a : ((d2 : Int) == 108) = false := by simp; omega
              by_cases h2b : d2 = 76
              · have t2b : ((d2 : Int) == 76) = true := by simp; omega
                have HC := Lib.hid (show resB l = true by rw [HR.out]; simp; try omega)
                clear HR
                go_enter Tryd.func19, Tryd.ntmps19
                go_wp2_with fail
                go_ret
                exact ⟨ret_bool HC.out.symm, rfl⟩
              · have t2b : ((d2 : Int) == 76) = false := by simp; omega
                have HC := Lib.hid (show resB l = false by rw [HR.out]; simp; try omega)
                clear HR
                go_enter Tryd.func19, Tryd.ntmps19
                go_wp2_with fail
                go_ret
                exact ⟨ret_bool HC.out.symm, rfl⟩
          · have t1b : ((d1 : Int) == 77) = false := by simp; omega
            have HC := Lib.hid (show resB l = false by rw [HR.out]; simp; try omega)
            clear HR
            go_enter Tryd.func19, Tryd.ntmps19
            go_wp2_with fail
            go_ret
            exact ⟨ret_bool HC.out.symm, rfl⟩
      · have t0b : ((d0 : Int) == 88) = false := by simp; omega
        have HC := Lib.hid (show resB l = false by rw [HR.out]; simp; try omega)
        clear HR
        go_enter Tryd.func19, Tryd.ntmps19
        go_wp2_with fail
        go_ret
        exact ⟨ret_bool HC.out.symm, rfl⟩
end Go.Proofs.YtggllkcoabeejaaDoor
