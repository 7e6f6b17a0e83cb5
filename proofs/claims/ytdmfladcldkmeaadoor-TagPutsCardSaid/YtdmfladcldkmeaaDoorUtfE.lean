/- Contract: the character at a place, as the document's own answer has it. -/
import Derived.Test.YtdmfladcldkmeaaDoorUtfD
namespace Go.Proofs.YtdmfladcldkmeaaDoor
open Go.ChangeShapes Go.WideShapes Go.ChangeAt Go.RowKit
set_option linter.unusedVariables false

set_option maxRecDepth 100000 in
set_option maxHeartbeats 4000000 in
theorem rchar_any (l : List UInt8) (A : Option Addr) (n c k : Nat) (w : World) (hn : l.length = n) (hm : n ≤ 9223372036854775800) (hk : k < n) (hs : Sees w A (vB l)) :
    Calls Tryd.prog 133 #[.slice A n c, .int .i64 k] w fun e w' => e = .returned (chrV l k) ∧ Below w.heap.size w w' := by
  obtain ⟨ad, rfl, hcell⟩ := hs.byte (k := k) (by omega)
  have hx := byteAt_lt l k
  have HR : ∀ c x y z, (byteAt l k : Int) = c → restS l (k + 1) = x → restS l (k + 2) = y → restS l (k + 3) = z → rawS l k =
    if c < 128 then (c, 1) else if 192 ≤ c ∧ c < 224 ∧ 0 ≤ x then ((c - 192) * 64 + x, 2) else if 224 ≤ c ∧ c < 240 ∧ 0 ≤ x ∧ 0 ≤ y then (((c - 224) * 64 + x) * 64 + y, 3)
      else if 240 ≤ c ∧ c < 248 ∧ 0 ≤ x ∧ 0 ≤ y ∧ 0 ≤ z then ((((c - 240) * 64 + x) * 64 + y) * 64 + z, 4) else (-1, 0) := by
    rintro _ _ _ _ rfl rfl rfl rfl; rfl
  have c1 := fun w hs => rest_i l (some ad) n c (k + 1) ((k : Int) + 1) w (by omega) hn (by omega) hs
  have c2 := fun w hs => rest_i l (some ad) n c (k + 2) ((k : Int) + 2) w (by omega) hn (by omega) hs
  have c3 := fun w hs => rest_i l (some ad) n c (k + 3) ((k : Int) + 3) w (by omega) hn (by omega) hs
  have b1 := restS_bd l (k + 1)
  have b2 := restS_bd l (k + 2)
  have b3 := restS_bd l (k + 3)
  obtain ⟨b, hb⟩ : ∃ b, byteAt l k = b := ⟨_, rfl⟩
  obtain ⟨x, hxe⟩ : ∃ x, restS l (k + 1) = x := ⟨_, rfl⟩
  obtain ⟨y, hye⟩ : ∃ x, restS l (k + 2) = x := ⟨_, rfl⟩
  obtain ⟨z, hze⟩ : ∃ x, restS l (k + 3) = x := ⟨_, rfl⟩
  have HRR := Lib.hid (HR b x y z (by rw [hb]) hxe hye hze)
  rw [hxe] at b1 c1
  rw [hye] at b2 c2
  rw [hze] at b3 c3
  rw [hb] at hx hcell
  have C1 := Lib.hid c1
  have C2 := Lib.hid c2
  have C3 := Lib.hid c3
  have HS := Lib.hid hs
  clear HR c1 c2 c3 hb hxe hye hze hs
  go_enter Tryd.func133, Tryd.ntmps133
  go_upto_if 30 with (first
    | (go_at_call 159; (with_reducible refine (C1.out _ HS.out).mono ?_); rintro e w' ⟨rfl, rfl⟩)
    | (go_at_call 159; (with_reducible refine (C2.out _ HS.out).mono ?_); rintro e w' ⟨rfl, rfl⟩)
    | (go_at_call 159; (with_reducible refine (C3.out _ HS.out).mono ?_); rintro e w' ⟨rfl, rfl⟩))
  go_cut [10, 11] (fun r m wx => ∃ q : Int, ∃ s : Nat, r = .int .i64 q ∧ m = .int .i64 s ∧ rawS l k = (q, s) ∧ w = wx)
  case first =>
    clear C1 C2 C3 HS hcell hn hk hm
    go_wp2
    all_goals
      go_meet
      refine ⟨_, _, rfl, rfl, ?_, rfl⟩
      rw [HRR.out]
      repeat (first | rw [if_pos (by omega)] | rw [if_neg (by omega)])
  case rest =>
    obtain ⟨q, s, rfl, rfl, hr, rfl⟩ := hcut
    have hrc := rawS_cases l k
    rw [hr] at hrc
    have HW := Lib.hid hr
    clear C1 C2 C3 HS hcell HRR hr b1 b2 b3
    by_cases h0 : s = 0
    · have HV := Lib.hid (chrV_none (l := l) (k := k) (.inl (by rw [HW.out]; exact h0)))
      subst h0
      clear hrc
      go_wp2
      go_ret2
      exact ⟨by rw [HV.out]; rfl, Below.refl _ _⟩
    · obtain ⟨hq0, hq1, hs1, hs4⟩ : 0 ≤ q ∧ q < 2097152 ∧ 1 ≤ s ∧ s ≤ 4 := by
        rcases hrc with h | ⟨q', a, a', n', a2, a3, h⟩
        · injection h with h1 h2; omega
        · injection h with h1 h2; subst h1 h2; exact ⟨a, a', a2, a3⟩
      have t0 : ((s : Int) == 0) = false := by simp; omega
      clear hrc
      by_cases hi : isR q = true
      · by_cases he : encLen q.toNat = s
        · have HV := Lib.hid (chrV_good HW.out h0 hi he)
          have t1 : (((encLen q.toNat : Nat) : Int) != (s : Int)) = false := by rw [he]; simp
          clear he
          go_wp2_with (first
            | (go_at_call 160; refine (ris_any _ _).mono ?_; rintro e w' ⟨rfl, rfl⟩)
            | (go_at_call 91; refine (rbytes_any _ _ hq0 hq1).mono ?_; rintro e w' ⟨rfl, rfl⟩))
          go_ret2
          exact ⟨by rw [HV.out]; rfl, (Below.refl _ _).alloc (Nat.le_refl _) _⟩
        · have HV := Lib.hid (chrV_none (l := l) (k := k) (.inr (.inr (by rw [HW.out]; exact he))))
          have t1 : (((encLen q.toNat : Nat) : Int) != (s : Int)) = true := by simp; omega
          clear he
          go_wp2_with (first
            | (go_at_call 160; refine (ris_any _ _).mono ?_; rintro e w' ⟨rfl, rfl⟩)
            | (go_at_call 91; refine (rbytes_any _ _ hq0 hq1).mono ?_; rintro e w' ⟨rfl, rfl⟩))
          go_ret2
          exact ⟨by rw [HV.out]; rfl, (Below.refl _ _).alloc (Nat.le_refl _) _⟩
      · have hi' : isR q = false := by simpa using hi
        have HV := Lib.hid (chrV_none (l := l) (k := k) (.inr (.inl (by rw [HW.out]; exact hi'))))
        clear hi
        go_wp2_with (first
          | (go_at_call 160; refine (ris_any _ _).mono ?_; rintro e w' ⟨rfl, rfl⟩)
          | (go_at_call 91; refine (rbytes_any _ _ hq0 hq1).mono ?_; rintro e w' ⟨rfl, rfl⟩))
        go_ret2
        exact ⟨by rw [HV.out]; rfl, Below.refl _ _⟩
end Go.Proofs.YtdmfladcldkmeaaDoor
