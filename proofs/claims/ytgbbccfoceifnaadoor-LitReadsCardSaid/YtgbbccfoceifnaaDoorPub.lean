/- All bytes of a text are of a public identifier: by the program and by the document. -/
import Derived.Test.YtgbbccfoceifnaaDoorUtfN
import Derived.Test.YtgbbccfoceifnaaDoorRal
namespace Go.Proofs.YtgbbccfoceifnaaDoor
open Go.ChangeShapes Go.WideShapes Go.ChangeAt Go.RowKit
set_option linter.unusedVariables false

theorem seesN {w : World} {A : Option Addr} {l : List Int} (h : Sees w A (l.map (Value.int .i64))) {k : Nat} (hk : k < l.length) : ∃ ad, A = some ad ∧ w.cell? (ad.add k) = some (.int .i64 l[k]) := by
  obtain ⟨ad, u, e, hu, hc⟩ := h.at (k := k) (by simpa using hk)
  rw [List.getElem?_map, List.getElem?_eq_getElem hk] at hu
  injection hu with hu
  exact ⟨ad, e, by rw [hc, ← hu]⟩
theorem notNil_4 : ∀ w : World, (binOp .eql 88 (.func (.func 70) #[] #[]) .nilFunc).run Tryd.prog w = .ok (.bool false) w := fun _ => by kernel_rfl
theorem all_next (xs : List Int) (P : Int → Bool) (j : Nat) (hj : j < xs.length) : (xs.take (j + 1)).all P = ((xs.take j).all P && P (xs[j]'hj)) := by
  rw [List.take_succ_eq_append_getElem hj, List.all_append]; simp
theorem all_miss (xs : List Int) (P : Int → Bool) (j : Nat) (hj : j < xs.length) (h : P (xs[j]'hj) = false) : xs.all P = false :=
  List.all_eq_false.2 ⟨xs[j], List.getElem_mem hj, by simp [h]⟩

set_option maxRecDepth 100000 in
set_option maxHeartbeats 2000000 in
theorem all_good_4 (A : Option Addr) (len cap n : Nat) (xs : List Int) (P : Int → Bool) (W : World) (hn : xs.length = n) (hsmall : n ≤ 17592186044416)
    (C : ∀ x w1, Below W.heap.size W w1 → Calls Tryd.prog 70 #[.int .i64 x] w1 fun e w' => e = .returned (.bool (P x)) ∧ Below w1.heap.size w1 w')
    (RG : ∀ w1, Below W.heap.size W w1 → Calls Tryd.prog 113 #[.slice A len cap] w1 fun e w' => ∃ A' c', e = .returned (.tuple #[.slice A' n c', .int .i64 0]) ∧ Sees w' A' (xs.map (Value.int .i64)) ∧ Below W.heap.size W w') :
    ∀ w1, Below W.heap.size W w1 → Calls Tryd.prog 69 #[.slice A len cap, .func (.func 70) #[] #[]] w1 fun e w' => e = .returned (.bool (xs.all P)) ∧ Below W.heap.size W w' := by
  intro w1 hB1
  have HN := Lib.hid hn; have HC := Lib.hid C; have HR := Lib.hid RG
  clear hn C RG
  have hnil := notNil_4
  go_enter Tryd.func69, Tryd.ntmps69
  go_wp2_with (go_at_call 113; refine (HR.out _ (by assumption)).mono ?_; rintro e w2 ⟨A', c', rfl, hs2, hb2⟩)
  go_loopw [20] (fun i wr => ∃ j : Nat, j ≤ n ∧ i = .int .i64 j ∧ (xs.take j).all P = true ∧ Below W.heap.size W wr ∧ Sees wr A' (xs.map (Value.int .i64))) (fun i _ => n - (intOf i).toNat)
  case atStart => exact ⟨0, by omega, rfl, rfl, hb2, hs2⟩
  case round =>
    obtain ⟨j, hj, rfl, hall, hB, hs⟩ := hrel
    have hsW := hB.size
    have HALL := Lib.hid hall
    clear hall hs2
    by_cases hlt : j < n
    · have hjl : j < xs.length := by rw [HN.out]; exact hlt
      obtain ⟨ad, rfl, hc⟩ := seesN hs hjl
      have HT := Lib.hid (all_next xs P j hjl)
      have HM := Lib.hid (all_miss xs P j hjl)
      obtain ⟨x, hx⟩ : ∃ x, (xs[j]'hjl) = x := ⟨_, rfl⟩
      rw [hx] at hc HT HM
      have h1 := HC.out x wr hB
      obtain ⟨q, hq⟩ : ∃ q, P x = q := ⟨_, rfl⟩
      rw [hq] at h1 HT HM
      have H1 := Lib.hid h1
      have HS := Lib.hid hs
      clear h1 hq hx hs hjl
      cases q with
      | true =>
        go_wp2_with (go_at_call 70; refine H1.out.mono ?_; rintro e w3 ⟨rfl, hb3⟩)
        go_roundw
        case rel => exact ⟨j + 1, by omega, by go_num, by rw [HT.out, HALL.out]; rfl, hB.trans (hb3.mono hsW), HS.out.below hb3⟩
        case measure => simp [intOf]; omega
      | false =>
        go_wp2_with (go_at_call 70; refine H1.out.mono ?_; rintro e w3 ⟨rfl, hb3⟩)
        go_ret
        exact ⟨ret_bool (by rw [HM.out (by trivial)]), hB.trans (hb3.mono hsW)⟩
    · obtain rfl : j = n := by omega
      have e := HALL.out
      rw [List.take_of_length_le (by rw [HN.out]; omega)] at e
      have HE := Lib.hid e
      clear e hs
      go_wp2_with fail
      go_ret
      exact ⟨ret_bool (by rw [HE.out]), hB⟩
theorem all_bad_4 (A : Option Addr) (len cap : Nat) (W : World)
    (RB : ∀ w1, Below W.heap.size W w1 → Calls Tryd.prog 113 #[.slice A len cap] w1 fun e w' => e = .returned (.tuple #[.slice none 0 0, .int .i64 5]) ∧ Below W.heap.size W w') :
    ∀ w1, Below W.heap.size W w1 → Calls Tryd.prog 69 #[.slice A len cap, .func (.func 70) #[] #[]] w1 fun e w' => e = .returned (.bool false) ∧ Below W.heap.size W w' := by
  intro w1 hB1
  have HR := Lib.hid RB
  clear RB
  have hnil := notNil_4
  go_enter Tryd.func69, Tryd.ntmps69
  go_wp2_with (go_at_call 113; refine (HR.out _ (by assumption)).mono ?_; rintro e w2 ⟨rfl, hb2⟩)
  go_ret
  exact ⟨rfl, hb2⟩

/-- Are all its characters of a public identifier? -/
def pubB (l : List UInt8) : Bool := match badS l with | none => (runesS l).all fun x => cls x 4 | some _ => false
theorem pubAll_any (l : List UInt8) (A : Option Addr) (len cap : Nat) (w : World) (hlen : l.length = len) (hnc : len ≤ cap) (hcap : cap ≤ 9223372036854775807) (hl : len ≤ 1000000) (hs : Sees w A (vB l)) (ht : Tables w) :
    Calls Tryd.prog 69 #[.slice A len cap, .func (.func 70) #[] #[]] w fun e w' => e = .returned (.bool (pubB l)) ∧ Below w.heap.size w w' := by
  unfold pubB
  cases hb : badS l with
  | none =>
    have hn : (runesS l).length ≤ 17592186044416 := by unfold runesS; rw [List.length_map]; have := stepsS_len l; omega
    have RG : ∀ w1, Below w.heap.size w w1 → Calls Tryd.prog 113 #[.slice A len cap] w1 fun e w' => ∃ A' c', e = .returned (.tuple #[.slice A' (runesS l).length c', .int .i64 0]) ∧ Sees w' A' ((runesS l).map (Value.int .i64)) ∧ Below w.heap.size w w' :=
      fun w1 hB => (runes_any A len cap l hlen hnc hcap (by omega) w1 (hs.below hB)).mono fun e W' ⟨h1, _, hb'⟩ => by
        obtain ⟨v, he, ho⟩ := h1 hb
        obtain ⟨A', c', rfl⟩ := ownsRow_form ho
        exact ⟨A', c', he, sees_own ho, hB.trans (hb'.mono hB.size)⟩
    exact all_good_4 A len cap _ _ (fun x => cls x 4) w rfl hn (fun x w1 hB => pubid_any x w1 (ht.below hB)) RG w (Below.refl _ _)
  | some m =>
    have RB : ∀ w1, Below w.heap.size w w1 → Calls Tryd.prog 113 #[.slice A len cap] w1 fun e w' => e = .returned (.tuple #[.slice none 0 0, .int .i64 5]) ∧ Below w.heap.size w w' :=
      fun w1 hB => (runes_any A len cap l hlen hnc hcap (by omega) w1 (hs.below hB)).mono fun e W' ⟨_, h2, hb'⟩ => ⟨h2 (by rw [hb]; simp), hB.trans (hb'.mono hB.size)⟩
    exact all_bad_4 A len cap w RB w (Below.refl _ _)
theorem rpubAll_any (l : List UInt8) (A : Option Addr) (len cap : Nat) (w : World) (hlen : l.length = len) (hl : len ≤ 1000000) (hs : Sees w A (vB l)) :
    Calls Tryd.prog 71 #[.slice A len cap, .int .i64 4] w fun e w' => e = .returned (.bool (pubB l)) ∧ Below w.heap.size w w' := by
  unfold pubB
  cases hb : badS l with
  | none =>
    have hn : (runesS l).length ≤ 17592186044416 := by unfold runesS; rw [List.length_map]; have := stepsS_len l; omega
    have RG2 : ∀ w1, Below w.heap.size w w1 → Calls Tryd.prog 115 #[.slice A len cap] w1 fun e w' => ∃ A' c', e = .returned (.tuple #[.slice A' (runesS l).length c', .int .i64 (-1)]) ∧ Sees w' A' ((runesS l).map (Value.int .i64)) ∧ Below w.heap.size w w' :=
      fun w1 hB => (rrunes_any A len cap l hlen (by omega) w1 (hs.below hB)).mono fun e W' ⟨h1, _, hb'⟩ => by
        obtain ⟨v, he, ho⟩ := h1 hb
        obtain ⟨A', c', rfl⟩ := ownsRow_form ho
        exact ⟨A', c', he, sees_own ho, hB.trans (hb'.mono hB.size)⟩
    exact rallR_good A len cap _ _ (fun x => cls x 4) w rfl hn 4 (fun x w1 => rcls_any 4 (by omega) x w1) RG2 w (Below.refl _ _)
  | some m =>
    have RB2 : ∀ w1, Below w.heap.size w w1 → Calls Tryd.prog 115 #[.slice A len cap] w1 fun e w' => e = .returned (.tuple #[.slice none 0 0, .int .i64 m]) ∧ Below w.heap.size w w' :=
      fun w1 hB => (rrunes_any A len cap l hlen (by omega) w1 (hs.below hB)).mono fun e W' ⟨_, h2, hb'⟩ => ⟨h2 m hb, hB.trans (hb'.mono hB.size)⟩
    exact rallR_bad A len cap w 4 m RB2 w (Below.refl _ _)
end Go.Proofs.YtgbbccfoceifnaaDoor
