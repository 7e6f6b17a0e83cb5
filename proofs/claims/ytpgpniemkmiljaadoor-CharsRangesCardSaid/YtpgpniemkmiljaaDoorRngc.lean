/- The law's walk over any function of a class: runs of a class. -/
import Derived.Test.YtpgpniemkmiljaaDoorRngb
namespace Go.Proofs.YtpgpniemkmiljaaDoor
open Go.ChangeShapes Go.WideShapes Go.ChangeAt Go.RowKit
set_option linter.unusedVariables false

theorem rng_isNil : ∀ w : World, (binOp .eql 25 .nilFunc .nilFunc).run Tryd.prog w = .ok (.bool true) w := fun _ => by kernel_rfl
theorem ranges_nil (a b : Int) (w : World) :
    Calls Tryd.prog 9 #[.nilFunc, .int .i64 a, .int .i64 b] w fun e w' => e = .returned (.slice none 0 0) ∧ w = w' := by
  have hnil := rng_isNil
  go_enter Tryd.func9, Tryd.ntmps9
  go_wp2_with fail
  go_ret
  exact ⟨rfl, rfl⟩
theorem ranges_back (N : Nat) (w : World) (hnil : ∀ w, (binOp .eql 25 (.func (.func N) #[] #[]) .nilFunc).run Tryd.prog w = .ok (.bool false) w) :
    Calls Tryd.prog 9 #[.func (.func N) #[] #[], .int .i64 1, .int .i64 0] w fun e w' => e = .returned (.slice none 0 0) ∧ w = w' := by
  go_enter Tryd.func9, Tryd.ntmps9
  go_wp2_with fail
  go_ret
  exact ⟨rfl, rfl⟩
theorem ranges_far (N : Nat) (w : World) (hnil : ∀ w, (binOp .eql 25 (.func (.func N) #[] #[]) .nilFunc).run Tryd.prog w = .ok (.bool false) w) :
    Calls Tryd.prog 9 #[.func (.func N) #[] #[], .int .i64 0, .int .i64 1048576] w fun e w' => e = .returned (.slice none 0 0) ∧ w = w' := by
  go_enter Tryd.func9, Tryd.ntmps9
  go_wp2_with fail
  go_ret
  exact ⟨rfl, rfl⟩

/-- All runs that lie ahead end below r. -/
def Past (L : List (Int × Int)) (at_ : Nat) (r : Int) : Prop := ∀ j p, j < at_ → L[j]? = some p → p.2 < r
theorem past_zero (L : List (Int × Int)) (r : Int) : Past L 0 r := fun j p h => by omega
theorem past_next {L : List (Int × Int)} {at_ : Nat} {r : Int} {p : Int × Int} (h : Past L at_ r) (hp : L[at_]? = some p) (hr : p.2 < r) : Past L (at_ + 1) r := by
  intro j q hj hq
  by_cases e : j = at_
  · subst e
    rw [hp] at hq
    injection hq with hq
    rw [← hq]; exact hr
  · exact h j q (by omega) hq
theorem past_mono {L : List (Int × Int)} {at_ : Nat} {r s : Int} (h : Past L at_ r) (hs : r ≤ s) : Past L at_ s := fun j p hj hp => by have := h j p hj hp; omega
theorem runs_end {P : Int → Bool} {lo hi r : Int} {L : List (Int × Int)} (h : RunsOf P lo hi L) (h1 : lo ≤ r) (h2 : r < hi) (hp : Past L L.length r) : P r = false := by
  cases e : P r with
  | false => rfl
  | true =>
    obtain ⟨p, hm, h3, h4⟩ := (h.iff r h1 h2).1 e
    obtain ⟨j, hj, e2⟩ := List.getElem_of_mem hm
    have := hp j p hj (by rw [List.getElem?_eq_getElem hj, e2])
    omega
theorem runs_in {P : Int → Bool} {lo hi r : Int} {L : List (Int × Int)} {at_ : Nat} {p : Int × Int} (h : RunsOf P lo hi L) (h1 : lo ≤ r) (h2 : r < hi) (hp : Past L at_ r) (ha : L[at_]? = some p) (hr : r ≤ p.2) :
    P r = decide (p.1 ≤ r) := by
  rw [Bool.eq_iff_iff, decide_eq_true_iff, h.iff r h1 h2]
  constructor
  · rintro ⟨q, hm, h3, h4⟩
    obtain ⟨j, hj, e2⟩ := List.getElem_of_mem hm
    rcases Nat.lt_trichotomy j at_ with hja | hja | hja
    · have := hp j q hja (by rw [List.getElem?_eq_getElem hj, e2]); omega
    · subst hja
      rw [List.getElem?_eq_getElem hj, e2] at ha
      injection ha with ha
      rw [← ha]; exact h3
    · have hal : at_ < L.length := by omega
      rw [List.getElem?_eq_getElem hal] at ha
      injection ha with ha
      have := List.pairwise_iff_getElem.1 h.ord at_ j hal hj hja
      rw [ha, e2] at this
      omega
  · intro h3
    exact ⟨p, List.mem_of_getElem? ha, h3, hr⟩
theorem runs_ok {P : Int → Bool} {lo hi : Int} {L : List (Int × Int)} {j : Nat} {p : Int × Int} (h : RunsOf P lo hi L) (hp : L[j]? = some p) : lo ≤ p.1 ∧ p.1 ≤ p.2 ∧ p.2 < hi := h.inn p (List.mem_of_getElem? hp)
theorem runs_gap {P : Int → Bool} {lo hi : Int} {L : List (Int × Int)} {j : Nat} {p q : Int × Int} (h : RunsOf P lo hi L) (hp : L[j]? = some p) (hq : L[j + 1]? = some q) : p.2 + 1 < q.1 := by
  obtain ⟨h1, e1⟩ := List.getElem?_eq_some_iff.1 hp
  obtain ⟨h2, e2⟩ := List.getElem?_eq_some_iff.1 hq
  have := List.pairwise_iff_getElem.1 h.ord j (j + 1) h1 h2 (by omega)
  rwa [e1, e2] at this
/-- The two numbers of a run, where they lie. -/
theorem row_pair {w : World} {base g n cp : Nat} {L : List (Int × Int)} (h : w.ownsRow base 32 2 (.slice (some ⟨g, 0, none⟩) n cp) n (vP L)) (hn : L.length = n) (j : Nat) (hj : j < n) :
    ∃ p, L[j]? = some p ∧ w.cell? ⟨g, j * 2, none⟩ = some (.int .i64 p.1) ∧ w.cell? ⟨g, j * 2 + 1, none⟩ = some (.int .i64 p.2) := by
  have hl : j < L.length := by omega
  obtain ⟨v1, v2⟩ := vP_at L j hl
  refine ⟨L[j], List.getElem?_eq_getElem hl, ?_, ?_⟩
  · rw [h.cellAt (j * 2) (by omega), v1]
  · rw [h.cellAt (j * 2 + 1) (by omega), v2]
theorem row_form {W : World} {base : Nat} {e : TypeId} {size : Nat} {v : Value} {k : Nat} {xs : List Value} (h : W.ownsRow base e size v k xs) : ∃ A c, v = .slice A k c := by
  rcases h.2 with ⟨rfl, rfl⟩ | ⟨g, cap, _, rfl, _⟩
  · exact ⟨_, _, rfl⟩
  · exact ⟨_, _, rfl⟩

theorem row_cap {w : World} {base : Nat} {e : TypeId} {A : Option Addr} {n m c size : Nat} {xs : List Value} (h : w.ownsRow base e size (.slice A m c) n xs) : n ≤ c ∧ c ≤ 9223372036854775807 := by
  rcases h.2 with ⟨h1, h2⟩ | ⟨g, cap, cur, h1, _, _, h4, h5, _⟩
  · injection h1 with _ _ h3; omega
  · injection h1 with _ _ h3; unfold maxLen at h5; omega
theorem row_addr {w : World} {base : Nat} {e : TypeId} {A : Option Addr} {n m c size : Nat} {xs : List Value} (h : w.ownsRow base e size (.slice A m c) n xs) (hn : 0 < n) : ∃ g, A = some ⟨g, 0, none⟩ := by
  rcases h.2 with ⟨h1, h2⟩ | ⟨g, cap, cur, h1, _⟩
  · omega
  · injection h1 with h2; exact ⟨g, h2⟩

set_option maxRecDepth 100000 in
set_option maxHeartbeats 4000000 in
theorem rangesLaw_far (a : Int) (mu c : Nat) (W : World) (ha : 4611686018427387904 < a) (hm : mu < 65536)
    (h3 : ∀ w1, Below W.heap.size W w1 → Calls Tryd.prog 5 #[] w1 fun e w' => e = .returned (.bool true) ∧ Below W.heap.size W w') :
    Calls Tryd.prog 4 #[.int .i64 a, .int .u16 mu, .int .u8 c] W fun e w' => e = .returned (.bool true) ∧ Below W.heap.size W w' := by
  have H3 := Lib.hid h3
  have hB : Below W.heap.size W W := Below.refl _ _
  clear h3
  go_enter Tryd.func4, Tryd.ntmps4
  go_wp2_with (go_at_call 5; refine (H3.out _ (by assumption)).mono ?_; rintro e w1 ⟨rfl, hb1⟩)
  go_ret
  exact ⟨rfl, by assumption⟩

set_option maxRecDepth 100000 in
set_option maxHeartbeats 4000000 in
theorem rangesLaw (N : Nat) (P : Int → Bool) (k : Nat) (a : Int) (mu c n : Nat) (W : World) (ha0 : -9223372036854775808 ≤ a) (ha : a ≤ 4611686018427387904) (hm : mu < 65536) (hc : c < 256) (hk : c % 5 = k) (hn : mu % 2000 = n)
    (hnil : ∀ w, (binOp .eql 25 (.func (.func N) #[] #[]) .nilFunc).run Tryd.prog w = .ok (.bool false) w)
    (h0 : ∀ w, Calls Tryd.prog 7 #[.int .i64 k] w fun e w' => e = .returned (.func (.func N) #[] #[]) ∧ w = w')
    (h1 : ∀ w1, Below W.heap.size W w1 → Calls Tryd.prog 9 #[.func (.func N) #[] #[], .int .i64 a, .int .i64 (a + n)] w1 (RangesPost P a (a + n + 1) W))
    (h2 : ∀ x w, Calls Tryd.prog 10 #[.int .i64 k, .int .i64 x] w fun e w' => e = .returned (.bool (P x)) ∧ w = w')
    (h3 : ∀ w1, Below W.heap.size W w1 → Calls Tryd.prog 5 #[] w1 fun e w' => e = .returned (.bool true) ∧ Below W.heap.size W w') :
    Calls Tryd.prog 4 #[.int .i64 a, .int .u16 mu, .int .u8 c] W fun e w' => e = .returned (.bool true) ∧ Below W.heap.size W w' := by
  have H0 := Lib.hid h0; have H1 := Lib.hid h1; have H2 := Lib.hid h2; have H3 := Lib.hid h3
  have m1 : (c : Int) % 5 = (k : Int) := by omega
  have m2 : (mu : Int) % 2000 = (n : Int) := by omega
  have hn2 : n < 2000 := by omega
  have hB : Below W.heap.size W W := Below.refl _ _
  clear h0 h1 h2 h3 hk hn
  go_enter Tryd.func4, Tryd.ntmps4
  go_wp2_with (first
    | (go_at_call 7; refine (H0.out _).mono ?_; rintro e w1 ⟨rfl, rfl⟩)
    | (go_at_call 9; (with_reducible refine (H1.out _ hB).mono ?_); rintro e w1 ⟨v, L, rfl, hown, hruns, hb1⟩; obtain ⟨A, cp, rfl⟩ := row_form hown; have HO := Lib.hid hown; have HR := Lib.hid hruns; clear hown hruns))
  obtain ⟨len, hlen⟩ : ∃ len, L.length = len := ⟨_, rfl⟩
  rw [hlen] at HO ⊢
  have HL := Lib.hid hlen
  clear hlen
  have hlm : len ≤ 9223372036854775807 := by have := row_cap HO.out; omega
  go_loop [10, 11, 12] (fun t i _ => ∃ at_ j : Nat, t = .int .i64 at_ ∧ i = .int .i64 j ∧ j ≤ n + 1 ∧ at_ ≤ len ∧ Hid (Past L at_ (a + j))) (fun _ i _ => n + 1 - (intOf i).toNat)
  case atStart => exact ⟨0, 0, rfl, rfl, by omega, by omega, past_zero _ _⟩
  case round =>
    obtain ⟨at_, j, rfl, rfl, hj, hat, HP⟩ := hrel
    by_cases hlt : j ≤ n
    · go_wp2_with fail
      go_loop [10] (fun t => ∃ at_ : Nat, t = .int .i64 at_ ∧ at_ ≤ len ∧ Hid (Past L at_ (a + j))) (fun t => len - (intOf t).toNat)
      case atStart => exact ⟨at_, rfl, hat, HP⟩
      case round =>
        obtain ⟨at2, rfl, hat2, HP2⟩ := hrel
        by_cases hal : at2 < len
        · obtain ⟨g, rfl⟩ := row_addr HO.out (by omega)
          obtain ⟨p, hp, hc1, hc2⟩ := row_pair HO.out HL.out at2 hal
          have HX := Lib.hid hp
          clear hp
          by_cases hpr : p.2 < a + j
          · go_wp2_with fail
            go_round
            case rel => exact ⟨at2 + 1, by go_num, by omega, past_next HP2.out HX.out hpr⟩
            case measure => simp [intOf]; omega
          · have HE := Lib.hid (runs_in HR.out (r := a + j) (by omega) (by omega) HP2.out HX.out (by omega))
            have hq := H2.out (a + j)
            rw [HE.out] at hq
            have HQ := Lib.hid hq
            clear hq
            go_wp2_with (go_at_call 10; refine (HQ.out _).mono ?_; rintro e w2 ⟨rfl, rfl⟩)
            go_round
            case rel => exact ⟨at2, j + 1, by go_num, by go_num, by omega, hat2, past_mono HP2.out (by omega)⟩
            case measure => simp [intOf]; omega
        · obtain rfl : at2 = len := by omega
          have hq := H2.out (a + j)
          rw [runs_end HR.out (r := a + j) (by omega) (by omega) (by rw [HL.out]; exact HP2.out)] at hq
          have HQ := Lib.hid hq
          clear hq
          go_wp2_with (go_at_call 10; refine (HQ.out _).mono ?_; rintro e w2 ⟨rfl, rfl⟩)
          go_round
          case rel => exact ⟨at2, j + 1, by go_num, by go_num, by omega, hat2, past_mono HP2.out (by omega)⟩
          case measure => simp [intOf]; omega
    · go_wp2_with fail
      have HOW := Lib.hid (fun nq => show (w1.drewN nq).ownsRow W.heap.size 32 2 (.slice A len cp) len (vP L) from HO.out)
      go_loopw [13] (fun t wr => ∃ i nq : Nat, t = .int .i64 i ∧ i ≤ len ∧ wr = w1.drewN nq) (fun t _ => len - (intOf t).toNat)
      case atStart => exact ⟨0, 0, rfl, by omega, rfl⟩
      case round =>
        obtain ⟨i, nq, rfl, hi, rfl⟩ := hrel
        by_cases hil : i < len
        · obtain ⟨g, rfl⟩ := row_addr HO.out (by omega)
          obtain ⟨p, hp, hc1, hc2⟩ := row_pair HO.out HL.out i hil
          obtain ⟨k1, k2, k3⟩ := runs_ok HR.out hp
          have HX := Lib.hid hp
          clear hp
          have d1 : ¬ p.1 < a := by omega
          have d2 : ¬ a + n < p.2 := by omega
          have d3 : ¬ p.2 < p.1 := by omega
          have e1 := decide_eq_false d1
          have e2 := decide_eq_false d2
          have e3 := decide_eq_false d3
          obtain ⟨p1, p2⟩ := p
          simp only [] at *
          cases i with
          | zero =>
            simp only [Nat.zero_mul, Nat.zero_add] at hc1 hc2
            go_wp2_with fail
            go_quiet (fail)
            go_wp2_with fail
            go_roundw
            case rel => exact ⟨1, _, by go_num, by omega, rfl⟩
            case measure => simp [intOf]; omega
          | succ i =>
            obtain ⟨q, hq, hd1, hd2⟩ := row_pair HO.out HL.out i (by omega)
            obtain ⟨q1, q2⟩ := q
            obtain ⟨l1, l2, l3⟩ := runs_ok HR.out hq
            have d4 : ¬ p1 ≤ q2 + 1 := by have := runs_gap HR.out hq HX.out; simp only [] at this; omega
            have e4 := decide_eq_false d4
            simp only [] at hd1 hd2 l1 l2 l3
            clear hq
            go_wp2_with fail
            go_quiet (fail)
            go_wp2_with fail
            go_roundw
            case rel => exact ⟨i + 1 + 1, _, by go_num, by omega, rfl⟩
            case measure => simp [intOf]; omega
        · obtain rfl : i = len := by omega
          have hBn : Below W.heap.size W (w1.drewN nq) := below_dr hb1 nq
          have K1 := Lib.hid (ranges_nil a (a + n))
          have K2 := Lib.hid (fun w => ranges_back N w hnil)
          have K3 := Lib.hid (fun w => ranges_far N w hnil)
          go_wp2_with (first
            | (go_at_call 7; refine (H0.out _).mono ?_; rintro e w1 ⟨rfl, rfl⟩)
            | (go_at_call 9; (with_reducible refine (K1.out _).mono ?_); rintro e w1 ⟨rfl, rfl⟩)
            | (go_at_call 9; (with_reducible refine (K2.out _).mono ?_); rintro e w1 ⟨rfl, rfl⟩)
            | (go_at_call 9; (with_reducible refine (K3.out _).mono ?_); rintro e w1 ⟨rfl, rfl⟩)
            | (go_at_call 5; refine (H3.out _ (by assumption)).mono ?_; rintro e w1 ⟨rfl, hb1⟩))
          go_ret
          exact ⟨rfl, by assumption⟩
end Go.Proofs.YtpgpniemkmiljaaDoor
