/- strings.EqualFold beyond ASCII: three bytes, one of them from 128 on, against "xml": never equal. -/
import Derived.Test.YtggllkcoabeejaaDoorMir
namespace Go.Proofs.YtggllkcoabeejaaDoor
open Go.ChangeShapes Go.WideShapes Go.ChangeAt Go.RowKit
set_option linter.unusedVariables false
set_option maxRecDepth 1000000

theorem lit123 (t : Nat → Value) : (List.range 123).map t = (t 0 :: t 1 :: t 2 :: t 3 :: t 4 :: t 5 :: t 6 :: t 7 :: t 8 :: t 9 :: t 10 :: t 11 :: t 12 :: t 13 :: t 14 :: t 15 :: t 16 :: t 17 :: t 18 :: t 19 :: t 20 :: t 21 :: t 22 :: t 23 :: t 24 :: t 25 :: t 26 :: t 27 :: t 28 :: t 29 :: t 30 :: t 31 :: t 32 :: t 33 :: t 34 :: t 35 :: t 36 :: t 37 :: t 38 :: t 39 :: t 40 :: t 41 :: t 42 :: t 43 :: t 44 :: t 45 :: t 46 :: t 47 :: t 48 :: t 49 :: t 50 :: t 51 :: t 52 :: t 53 :: t 54 :: t 55 :: t 56 :: t 57 :: t 58 :: t 59 :: t 60 :: t 61 :: t 62 :: t 63 :: t 64 :: t 65 :: t 66 :: t 67 :: t 68 :: t 69 :: t 70 :: t 71 :: t 72 :: t 73 :: t 74 :: t 75 :: t 76 :: t 77 :: t 78 :: t 79 :: t 80 :: t 81 :: t 82 :: t 83 :: t 84 :: t 85 :: t 86 :: t 87 :: t 88 :: t 89 :: t 90 :: t 91 :: t 92 :: t 93 :: t 94 :: t 95 :: t 96 :: t 97 :: t 98 :: t 99 :: t 100 :: t 101 :: t 102 :: t 103 :: t 104 :: t 105 :: t 106 :: t 107 :: t 108 :: t 109 :: t 110 :: t 111 :: t 112 :: t 113 :: t 114 :: t 115 :: t 116 :: t 117 :: t 118 :: t 119 :: t 120 :: t 121 :: t 122 :: []) := by kernel_rfl
theorem arr123 (a : Array Value) (h : a.size = 123) : ∃ t : Nat → Value, a = List.toArray (t 0 :: t 1 :: t 2 :: t 3 :: t 4 :: t 5 :: t 6 :: t 7 :: t 8 :: t 9 :: t 10 :: t 11 :: t 12 :: t 13 :: t 14 :: t 15 :: t 16 :: t 17 :: t 18 :: t 19 :: t 20 :: t 21 :: t 22 :: t 23 :: t 24 :: t 25 :: t 26 :: t 27 :: t 28 :: t 29 :: t 30 :: t 31 :: t 32 :: t 33 :: t 34 :: t 35 :: t 36 :: t 37 :: t 38 :: t 39 :: t 40 :: t 41 :: t 42 :: t 43 :: t 44 :: t 45 :: t 46 :: t 47 :: t 48 :: t 49 :: t 50 :: t 51 :: t 52 :: t 53 :: t 54 :: t 55 :: t 56 :: t 57 :: t 58 :: t 59 :: t 60 :: t 61 :: t 62 :: t 63 :: t 64 :: t 65 :: t 66 :: t 67 :: t 68 :: t 69 :: t 70 :: t 71 :: t 72 :: t 73 :: t 74 :: t 75 :: t 76 :: t 77 :: t 78 :: t 79 :: t 80 :: t 81 :: t 82 :: t 83 :: t 84 :: t 85 :: t 86 :: t 87 :: t 88 :: t 89 :: t 90 :: t 91 :: t 92 :: t 93 :: t 94 :: t 95 :: t 96 :: t 97 :: t 98 :: t 99 :: t 100 :: t 101 :: t 102 :: t 103 :: t 104 :: t 105 :: t 106 :: t 107 :: t 108 :: t 109 :: t 110 :: t 111 :: t 112 :: t 113 :: t 114 :: t 115 :: t 116 :: t 117 :: t 118 :: t 119 :: t 120 :: t 121 :: t 122 :: []) ∧ ∀ i, i < 123 → a[i]? = some (t i) := by
  refine ⟨fun i => a.getD i undef, ?_, ?_⟩
  · apply Array.ext'
    rw [show (List.toArray ((fun i => a.getD i undef) 0 :: (fun i => a.getD i undef) 1 :: (fun i => a.getD i undef) 2 :: (fun i => a.getD i undef) 3 :: (fun i => a.getD i undef) 4 :: (fun i => a.getD i undef) 5 :: (fun i => a.getD i undef) 6 :: (fun i => a.getD i undef) 7 :: (fun i => a.getD i undef) 8 :: (fun i => a.getD i undef) 9 :: (fun i => a.getD i undef) 10 :: (fun i => a.getD i undef) 11 :: (fun i => a.getD i undef) 12 :: (fun i => a.getD i undef) 13 :: (fun i => a.getD i undef) 14 :: (fun i => a.getD i undef) 15 :: (fun i => a.getD i undef) 16 :: (fun i => a.getD i undef) 17 :: (fun i => a.getD i undef) 18 :: (fun i => a.getD i undef) 19 :: (fun i => a.getD i undef) 20 :: (fun i => a.getD i undef) 21 :: (fun i => a.getD i undef) 22 :: (fun i => a.getD i undef) 23 :: (fun i => a.getD i undef) 24 :: (fun i => a.getD i undef) 25 :: (fun i => a.getD i undef) 26 :: (fun i => a.getD i undef) 27 :: (fun i => a.getD i undef) 28 :: (fun i => a.getD i undef) 29 :: (fun i => a.getD i undef) 30 :: (fun i => a.getD i undef) 31 :: (fun i => a.getD i undef) 32 :: (fun i => a.getD i undef) 33 :: (fun i => a.getD i undef) 34 :: (fun i => a.getD i undef) 35 :: (fun i => a.getD i undef) 36 :: (fun i => a.getD i undef) 37 :: (fun i => a.getD i undef) 38 :: (fun i => a.getD i undef) 39 :: (fun i => a.getD i undef) 40 :: (fun i => a.getD i undef) 41 :: (fun i => a.getD i undef) 42 :: (fun i => a.getD i undef) 43 :: (fun i => a.getD i undef) 44 :: (fun i => a.getD i undef) 45 :: (fun i => a.getD i undef) 46 :: (fun i => a.getD i undef) 47 :: (fun i => a.getD i undef) 48 :: (fun i => a.getD i undef) 49 :: (fun i => a.getD i undef) 50 :: (fun i => a.getD i undef) 51 :: (fun i => a.getD i undef) 52 :: (fun i => a.getD i undef) 53 :: (fun i => a.getD i undef) 54 :: (fun i => a.getD i undef) 55 :: (fun i => a.getD i undef) 56 :: (fun i => a.getD i undef) 57 :: (fun i => a.getD i undef) 58 :: (fun i => a.getD i undef) 59 :: (fun i => a.getD i undef) 60 :: (fun i => a.getD i undef) 61 :: (fun i => a.getD i undef) 62 :: (fun i => a.getD i undef) 63 :: (fun i => a.getD i undef) 64 :: (fun i => a.getD i undef) 65 :: (fun i => a.getD i undef) 66 :: (fun i => a.getD i undef) 67 :: (fun i => a.getD i undef) 68 :: (fun i => a.getD i undef) 69 :: (fun i => a.getD i undef) 70 :: (fun i => a.getD i undef) 71 :: (fun i => a.getD i undef) 72 :: (fun i => a.getD i undef) 73 :: (fun i => a.getD i undef) 74 :: (fun i => a.getD i undef) 75 :: (fun i => a.getD i undef) 76 :: (fun i => a.getD i undef) 77 :: (fun i => a.getD i undef) 78 :: (fun i => a.getD i undef) 79 :: (fun i => a.getD i undef) 80 :: (fun i => a.getD i undef) 81 :: (fun i => a.getD i undef) 82 :: (fun i => a.getD i undef) 83 :: (fun i => a.getD i undef) 84 :: (fun i => a.getD i undef) 85 :: (fun i => a.getD i undef) 86 :: (fun i => a.getD i undef) 87 :: (fun i => a.getD i undef) 88 :: (fun i => a.getD i undef) 89 :: (fun i => a.getD i undef) 90 :: (fun i => a.getD i undef) 91 :: (fun i => a.getD i undef) 92 :: (fun i => a.getD i undef) 93 :: (fun i => a.getD i undef) 94 :: (fun i => a.getD i undef) 95 :: (fun i => a.getD i undef) 96 :: (fun i => a.getD i undef) 97 :: (fun i => a.getD i undef) 98 :: (fun i => a.getD i undef) 99 :: (fun i => a.getD i undef) 100 :: (fun i => a.getD i undef) 101 :: (fun i => a.getD i undef) 102 :: (fun i => a.getD i undef) 103 :: (fun i => a.getD i undef) 104 :: (fun i => a.getD i undef) 105 :: (fun i => a.getD i undef) 106 :: (fun i => a.getD i undef) 107 :: (fun i => a.getD i undef) 108 :: (fun i => a.getD i undef) 109 :: (fun i => a.getD i undef) 110 :: (fun i => a.getD i undef) 111 :: (fun i => a.getD i undef) 112 :: (fun i => a.getD i undef) 113 :: (fun i => a.getD i undef) 114 :: (fun i => a.getD i undef) 115 :: (fun i => a.getD i undef) 116 :: (fun i => a.getD i undef) 117 :: (fun i => a.getD i undef) 118 :: (fun i => a.getD i undef) 119 :: (fun i => a.getD i undef) 120 :: (fun i => a.getD i undef) 121 :: (fun i => a.getD i undef) 122 :: []) : Array Value).toList = (List.range 123).map (fun i => a.getD i undef) from (lit123 (fun i => a.getD i undef)).symm]
    apply List.ext_getElem
    · simp [h]
    · intro i h1 h2
      have : i < a.size := by simpa using h1
      simp [Array.getD, this]
  · intro i hi
    have : i < a.size := by omega
    simp [Array.getD, this]
def JumpE (l : List UInt8) (W : World) (a' : Act) (w' : World) : Prop :=
  w' = W ∧ a'.defers = [] ∧ a'.tmps.size = 123 ∧ a'.tmps[0]? = some (strV l) ∧ a'.tmps[1]? = some (strV [120, 109, 108]) ∧ ∃ j : Nat, a'.tmps[5]? = some (.int .i64 (j : Int)) ∧ j < 3 ∧ 128 ≤ byteAt l j
theorem JumpE.frame {l : List UInt8} {W w' : World} {a' : Act} (h : JumpE l W a' w') : w' = W ∧ ∃ (j : Nat) (t : Nat → Value), a' = { tmps := List.toArray (strV l :: strV [120, 109, 108] :: t 2 :: t 3 :: t 4 :: (.int .i64 (j : Int)) :: t 6 :: t 7 :: t 8 :: t 9 :: t 10 :: t 11 :: t 12 :: t 13 :: t 14 :: t 15 :: t 16 :: t 17 :: t 18 :: t 19 :: t 20 :: t 21 :: t 22 :: t 23 :: t 24 :: t 25 :: t 26 :: t 27 :: t 28 :: t 29 :: t 30 :: t 31 :: t 32 :: t 33 :: t 34 :: t 35 :: t 36 :: t 37 :: t 38 :: t 39 :: t 40 :: t 41 :: t 42 :: t 43 :: t 44 :: t 45 :: t 46 :: t 47 :: t 48 :: t 49 :: t 50 :: t 51 :: t 52 :: t 53 :: t 54 :: t 55 :: t 56 :: t 57 :: t 58 :: t 59 :: t 60 :: t 61 :: t 62 :: t 63 :: t 64 :: t 65 :: t 66 :: t 67 :: t 68 :: t 69 :: t 70 :: t 71 :: t 72 :: t 73 :: t 74 :: t 75 :: t 76 :: t 77 :: t 78 :: t 79 :: t 80 :: t 81 :: t 82 :: t 83 :: t 84 :: t 85 :: t 86 :: t 87 :: t 88 :: t 89 :: t 90 :: t 91 :: t 92 :: t 93 :: t 94 :: t 95 :: t 96 :: t 97 :: t 98 :: t 99 :: t 100 :: t 101 :: t 102 :: t 103 :: t 104 :: t 105 :: t 106 :: t 107 :: t 108 :: t 109 :: t 110 :: t 111 :: t 112 :: t 113 :: t 114 :: t 115 :: t 116 :: t 117 :: t 118 :: t 119 :: t 120 :: t 121 :: t 122 :: []), defers := [] } ∧ j < 3 ∧ 128 ≤ byteAt l j := by
  obtain ⟨h0, h1, h2, h3, h4, j, h5, h6, h7⟩ := h
  obtain ⟨t, ht, hi⟩ := arr123 a'.tmps h2
  refine ⟨h0, j, t, ?_, h6, h7⟩
  obtain ⟨tm, de⟩ := a'
  subst h1
  rw [hi 0 (by decide)] at h3
  rw [hi 1 (by decide)] at h4
  rw [hi 5 (by decide)] at h5
  injection h3 with h3
  injection h4 with h4
  injection h5 with h5
  rw [show tm = _ from ht, h3, h4, h5]
set_option maxHeartbeats 4000000 in
theorem efold_big (l : List UInt8) (h3 : l.length = 3) (hbig : ∃ j, j < 3 ∧ 128 ≤ byteAt l j) (W : World) (hf : FoldAt W) :
    Calls Tryd.prog 37 #[strV l, strV [120, 109, 108]] W fun e w' => e = .returned (.bool false) ∧ Below W.heap.size W w' := by
  have hsz := str_size l
  have X0 : ∀ (k : Nat), k < 3 → ∀ w : World, (Instr.index 9 (strV l) (.int .i64 (k : Int))).run Tryd.prog w = .ok (.int .u8 (byteAt l k : Int)) w := fun k hk w => str_idx l k (by omega) w
  have Y0 : ∀ (k : Nat), k < 3 → ∀ w : World, (Instr.index 9 (strV [120, 109, 108]) (.int .i64 (k : Int))).run Tryd.prog w = .ok (.int .u8 (byteAt [120, 109, 108] k : Int)) w := fun k hk w => str_idx _ k (by simpa using hk) w
  have HB := Lib.hid hbig
  have HF := Lib.hid hf
  clear hbig hf
  have s0 : ((⟨l.toArray⟩ : ByteArray).size : Int) = 3 := by omega
  go_enter Tryd.func37, Tryd.ntmps37
  go_wp2_with fail
  refine wp_scope_jumps 0 (JumpE l W) (fun _ _ => 0) rfl ?_ ?_
  · have hM : min ((⟨l.toArray⟩ : ByteArray).size : Int) ((⟨([120, 109, 108] : List UInt8).toArray⟩ : ByteArray).size : Int) = ((3 : Nat) : Int) := by rw [s0]; rfl
    go_wp2_with fail
    go_loopg [5] 3 (fun g s5 wx => wx = W ∧ ∃ i : Nat, i + g = 3 ∧ s5 = .int .i64 i ∧ ∀ q, q < i → byteAt l q < 128)
    case atStart => exact ⟨rfl, 0, by omega, rfl, fun q hq => absurd hq (by omega)⟩
    case round =>
      obtain ⟨rfl, i, hig, rfl, hlow⟩ := hrel
      have HL := Lib.hid hlow
      clear hlow hM
      cases gk with
      | zero =>
        obtain ⟨q, hq, hqb⟩ := HB.out
        have := HL.out q (by omega)
        omega
      | succ g =>
        have hi3 : i < 3 := by omega
        have hiM : (i : Int) < ((3 : Nat) : Int) := by omega
        obtain ⟨x, hx⟩ : ∃ x, byteAt l i = x := ⟨_, rfl⟩
        obtain ⟨y, hy⟩ : ∃ y, byteAt [120, 109, 108] i = y := ⟨_, rfl⟩
        have hx9 : x < 256 := by rw [← hx]; unfold byteAt; exact UInt8.toNat_lt _
        have hy9 : y < 128 := by
          match i, hi3, hy with
          | 0, _, hy => exact hy ▸ (by decide)
          | 1, _, hy => exact hy ▸ (by decide)
          | 2, _, hy => exact hy ▸ (by decide)
        have X1 := X0 i hi3
        have Y1 := Y0 i hi3
        rw [hx] at X1
        rw [hy] at Y1
        clear X0 Y0
        have hor : bits .or .u8 (x : Int) (y : Int) = ((x ||| y : Nat) : Int) := u8_or_nat _ _ (by omega) (by omega)
        by_cases hx8 : x < 128
        · have hor128 : ¬ ((128 : Int) ≤ ((x ||| y : Nat) : Int)) := by have := Nat.or_lt_two_pow (n := 7) hx8 hy9; omega
          have HL2 := Lib.hid (show ∀ q, q < i + 1 → byteAt l q < 128 from fun q hq => by
            by_cases h : q = i
            · rw [h, hx]; exact hx8
            · exact HL.out q (by omega))
          clear hx hy HL
          go_wp2
          all_goals first
            | (go_roundg g
               case measure => omega
               case rel => exact ⟨rfl, i + 1, by omega, by first | rfl | simp, HL2.out⟩)
            | (simp only [Exit.jump]
               go_ret
               exact ⟨rfl, Below.refl _ _⟩)
        · have hor128 : (128 : Int) ≤ ((x ||| y : Nat) : Int) := by have := @Nat.left_le_or x y; omega
          have HJ := Lib.hid (show 128 ≤ byteAt l i by omega)
          clear hx hy HL
          go_wp2_with fail
          go_step3
          exact ⟨rfl, rfl, rfl, rfl, rfl, rfl, i, rfl, hi3, HJ.out⟩

  · intro a' w' hJ
    obtain ⟨rfl, j, t, rfl, hj, hb⟩ := hJ.frame
    clear hJ s0 hsz X0 Y0 HB
    obtain ⟨y, r, p, s, hyr, hp, hp1, hp2, hps, hfp, hfs⟩ : ∃ (y : UInt8) (r : List UInt8) (p s : Nat), List.drop j [120, 109, 108] = y :: r ∧ y.toNat = p ∧ 97 ≤ p ∧ p < 128 ∧ s + 32 = p ∧ foldT[p]? = some (s : Int) ∧ foldT[s]? = some (p : Int) := by
      match j, hj with
      | 0, _ => exact ⟨120, [109, 108], 120, 88, rfl, rfl, by decide, by decide, rfl, by decide, by decide⟩
      | 1, _ => exact ⟨109, [108], 109, 77, rfl, rfl, by decide, by decide, rfl, by decide, by decide⟩
      | 2, _ => exact ⟨108, [], 108, 76, rfl, rfl, by decide, by decide, rfl, by decide, by decide⟩
    obtain ⟨c, k, hck⟩ : ∃ c k, Utf8.decode ⟨(List.drop j l).toArray⟩ 0 = (c, k) := ⟨_, _, rfl⟩
    have hc : 128 ≤ c := by
      have h := dec_ge ⟨(List.drop j l).toArray⟩ 0 (by
        refine Nat.le_trans hb (Nat.le_of_eq ?_)
        unfold byteAt
        have hlt : j < l.length := by omega
        show (l[j]?.getD 0).toNat = ((List.drop j l).toArray[0]!).toNat
        simp [List.getElem?_eq_getElem hlt])
      rw [hck] at h
      exact h
    have S1 := fun w => str_from l j (by omega) w
    have S2 := fun w => str_from [120, 109, 108] j (by simp; omega) w
    rw [hyr] at S2
    have S3 : ∀ w : World, (Instr.slice 9 (strV (y :: r)) (some (.int .i64 (1 : Int))) none none).run Tryd.prog w = .ok (strV r) w := fun w => str_from (y :: r) 1 (by simp) w
    have N1 := fun ty => run_next_any w' ⟨(List.drop j l).toArray⟩ 0 ty (by rw [str_size]; simp; omega) c k hck
    have z1 : (((⟨(y :: r).toArray⟩ : ByteArray).size : Int) == 0) = false := by rw [str_size]; simp; omega
    have D1 := fun w => drune_any y r w (by omega)
    rw [hp] at D1
    have F1 := fun (w : World) (h : FoldAt w) => sfold_any p s w hp2 (by omega) hfp h
    have F2 := fun (w : World) (h : FoldAt w) => sfold_any s p w (by omega) (by omega) hfs h
    have e1 : ((p : Int) == (c : Int)) = false := by simp; omega
    have e2 : (p : Int) < (c : Int) := by omega
    have e3 : ¬ ((c : Int) < 128) := by omega
    have e4 : ((s : Int) != (p : Int)) = true := by simp; omega
    have e5 : (s : Int) < (c : Int) := by omega
    clear hck hyr hfp hfs hb hps
    go_wp2_with fail
    go_loopg [1] 0 (fun g s1 wx => wx = w'.iter ⟨(List.drop j l).toArray⟩ 0 ∧ s1 = strV (y :: r))
    case atStart => exact ⟨rfl, rfl⟩
    case round =>
      obtain ⟨rfl, rfl⟩ := hrel
      go_wp2_with fail
      refine (D1 _).mono ?_
      rintro e wq ⟨rfl, rfl⟩
      go_wp2_with fail
      have FA : FoldAt (w'.iter ⟨(List.drop j l).toArray⟩ k) := HF.out.below (below_iter (Below.refl _ _) (Nat.le_refl _) _ _)
      refine (F1 _ FA).mono ?_
      rintro e wq ⟨rfl, rfl⟩
      go_wp2_with fail
      go_loopg [13] 1 (fun g s13 wx => wx = w'.iter ⟨(List.drop j l).toArray⟩ k ∧ ((g = 1 ∧ s13 = .int .i32 (s : Int)) ∨ (g = 0 ∧ s13 = .int .i32 (p : Int))))
      case atStart => exact ⟨rfl, .inl ⟨rfl, rfl⟩⟩
      case round =>
        obtain ⟨rfl, ⟨rfl, rfl⟩ | ⟨rfl, rfl⟩⟩ := hrel
        · go_wp2_with fail
          refine (F2 _ FA).mono ?_
          rintro e wq ⟨rfl, rfl⟩
          go_wp2_with fail
          go_roundg 0
          case measure => omega
          case rel => exact ⟨rfl, .inr ⟨rfl, rfl⟩⟩
        · have e6 : ((p : Int) != (p : Int)) = false := by simp
          go_wp2_with fail
          simp only [Exit.jump]
          go_ret
          exact ⟨rfl, below_iter (Below.refl _ _) (Nat.le_refl _) _ _⟩

end Go.Proofs.YtggllkcoabeejaaDoor
