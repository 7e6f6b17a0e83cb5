/- Texts between quotes: the page's example; the walks of LitRefs and LitWrites. Contracts: the classes together; whether a number is of a class; the function of a class. The document's own All: what Runes tells is a premise. All bytes of a text are of a public identifier: by the program and by the document. Public identifiers between quotes; the walk of LitReads. -/
import Derived.Lib.BufferRead
import Derived.Lib.SlBytesConst
import Derived.Test.YtdmfladcldkmeaaDoorPkaa
import Derived.Test.YtdmfladcldkmeaaDoorPkad
import Derived.Test.YtdmfladcldkmeaaDoorPkae
import Derived.Test.YtdmfladcldkmeaaDoorPkag
import Derived.Test.YtdmfladcldkmeaaDoorPkaj
import Derived.Test.YtdmfladcldkmeaaDoorPkan
namespace Go.Proofs.YtdmfladcldkmeaaDoor
open Go.ChangeShapes Go.WideShapes Go.ChangeAt Go.RowKit
set_option linter.unusedVariables false
set_option maxRecDepth 100000

theorem lt1 : trV (strT 60 [39, 97, 38, 97, 109, 112, 59, 98, 39] 0) = .tuple #[.string ⟨#[97, 38, 97, 109, 112, 59, 98]⟩, .int .i64 9, .int .i64 0] := by kernel_rfl
theorem lt2 : trV (strT 60 [39, 97, 60, 98, 39] 0) = .tuple #[.string ⟨#[]⟩, .int .i64 0, .int .i64 7] := by kernel_rfl
theorem lt3 : refsV [97, 38, 98] = .tuple #[.int .i64 1, .int .i64 7] := by kernel_rfl

theorem escB_no (b : Nat) (hb : b < 256) : ∀ c ∈ escB b, c ≠ 34 ∧ c ≠ 60 := by
  unfold escB
  repeat' split
  all_goals first
    | decide
    | (intro c hc
       obtain rfl : c = UInt8.ofNat b := by simpa using hc
       constructor
       · intro h
         have := congrArg UInt8.toNat h
         rw [ofNat_toNat hb] at this
         exact absurd this (by show b ≠ 34; omega)
       · intro h
         have := congrArg UInt8.toNat h
         rw [ofNat_toNat hb] at this
         exact absurd this (by show b ≠ 60; omega))
theorem escL_no (s : List UInt8) : ∀ c ∈ escL s, c ≠ 34 ∧ c ≠ 60 := by
  intro c hc
  unfold escL at hc
  rw [List.mem_flatMap] at hc
  obtain ⟨b, _, hb⟩ := hc
  exact escB_no _ (UInt8.toNat_lt b) c hb
theorem index_no {m : List UInt8} {b : UInt8} (h : ∀ c ∈ m, c ≠ b) : Lib.indexByte m b = -1 := by
  rcases index_cases m b with ⟨h1, _⟩ | ⟨i, _, _, h2, _⟩
  · exact h1
  · exact absurd rfl (h b (List.mem_of_getElem? h2))
theorem index_end {m : List UInt8} {b : UInt8} (h : ∀ c ∈ m, c ≠ b) : Lib.indexByte (m ++ [b]) b = m.length := by
  rcases index_cases (m ++ [b]) b with ⟨_, h1⟩ | ⟨i, h0, h1, h2, h3⟩
  · exact absurd (by rw [List.getElem?_append_right (Nat.le_refl _), Nat.sub_self]; rfl) (h1 m.length)
  · rw [h0]
    rw [List.length_append] at h1
    simp only [List.length_cons, List.length_nil] at h1
    rcases Nat.lt_or_ge i m.length with hi | hi
    · rw [List.getElem?_append_left hi] at h2
      exact absurd rfl (h b (List.mem_of_getElem? h2))
    · have : i = m.length := by omega
      rw [this]
/-- No reference of an escaped text is wrong. -/
theorem esc_refs (s : List UInt8) (n : Nat) : ∀ (k f : Nat), k + n = s.length → (escL s).length ≤ posE s k + f → refsN (escL s) f (posE s k) = (0, 0) := by
  induction n with
  | zero =>
    intro k f hk _
    obtain rfl : k = s.length := by omega
    exact refs_end _ _ (by rw [pos_end]; exact Nat.le_refl _)
  | succ n ih =>
    intro k f hk hf
    have hlt : k < s.length := by omega
    have hle := pos_le s k hlt
    have hp : posE s k < posE s (k + 1) := by
      rw [pos_succ s k hlt]
      have : 0 < (escB (byteAt s k)).length := by unfold escB; (repeat' split) <;> simp
      omega
    obtain ⟨g, rfl⟩ : ∃ g, f = g + 1 := ⟨f - 1, by omega⟩
    have hI := ih (k + 1) g (by omega) (by omega)
    rcases esc_at s k hlt with ⟨a1, a2, a3, nm, a4, a5⟩ | ⟨a1, a2, a3, a4⟩ | ⟨a1, ⟨b38, _⟩, a2, a3, a4⟩
    · have hbh : bhN (escL s) (posE s k) = (((posE s (k + 1) : Nat) : Int), (0 : Int)) := by
        unfold bhN
        rw [if_neg (by rintro ⟨_, h⟩; exact a2 h), a4]
        rfl
      rw [refs_on g (posE s k) (posE s (k + 1)) (by omega) a1 (by rw [hbh]) (by rw [hbh])]
      exact hI
    · have hlen : posE s k + 1 < (escL s).length := by
        rcases Nat.lt_or_ge (posE s k + 1) (escL s).length with h | h
        · exact h
        · unfold byteAt at a2
          rw [List.getElem?_eq_none h] at a2
          exact absurd a2 (by decide)
      have hbh : bhN (escL s) (posE s k) = (((posE s (k + 1) : Nat) : Int), (0 : Int)) := by
        unfold bhN
        rw [if_pos ⟨hlen, a2⟩, a4]
        rfl
      rw [refs_on g (posE s k) (posE s (k + 1)) (by omega) a1 (by rw [hbh]) (by rw [hbh])]
      exact hI
    · rw [refs_one g (posE s k) (by omega) (by rw [a1]; exact b38), ← a2]
      exact hI
/-- A text that is written is read as it is escaped. -/
theorem write_read (s : List UInt8) : strT 60 (34 :: escL s ++ [34]) 0 = (escL s, (((34 :: escL s ++ [34]).length : Nat) : Int), 0) := by
  have hno := escL_no s
  have hq : quoT (34 :: escL s ++ [34]) ((0 : Nat) : Int) = (escL s, ((0 + 1 + (escL s).length + 1 : Nat) : Int), 0) := by
    have hd : (34 :: escL s ++ [34]).drop (0 + 1) = escL s ++ [34] := rfl
    rw [quoT_ok (b := 34) (i := (escL s).length) (by simp) rfl (.inl rfl) (by rw [hd]; exact index_end (fun c hc => (hno c hc).1)), hd, List.take_left]
  have hr : refsE (escL s) = 0 := by
    unfold refsE
    have := esc_refs s s.length 0 (escL s).length (by omega) (by omega)
    rw [pos_zero] at this
    rw [this]
  have hw : withoutE 60 (escL s) = 0 := by
    unfold withoutE
    rw [index_no (b := UInt8.ofNat 60) (fun c hc => (hno c hc).2), if_neg (by omega)]
  have hc : chk [withoutE 60, refsE] (escL s) = 0 := by
    show (if withoutE 60 (escL s) ≠ 0 then _ else if refsE (escL s) ≠ 0 then _ else (0 : Int)) = 0
    rw [hw, hr, if_neg (by omega), if_neg (by omega)]
  unfold strT
  show chkT _ (quoT (34 :: escL s ++ [34]) ((0 : Nat) : Int)) = _
  rw [hq]
  unfold chkT
  simp only
  rw [if_neg (by simp), hc, if_neg (by simp)]
  have e : (((34 :: escL s ++ [34]).length : Nat) : Int) = ((0 + 1 + (escL s).length + 1 : Nat) : Int) := by simp; omega
  rw [e]
theorem quo_str (m : List UInt8) : (⟨#[34]⟩ : ByteArray) ++ ⟨m.toArray⟩ ++ ⟨#[34]⟩ = ⟨(34 :: m ++ [34]).toArray⟩ :=
  (congrArg (· ++ (⟨#[34]⟩ : ByteArray)) (str_app [34] m)).trans (str_app _ [34])
theorem ret_s {a b : ByteArray} (h : a = b) : Ending.returned (.string a) = .returned (.string b) := by rw [h]
end Go.Proofs.YtdmfladcldkmeaaDoor
namespace Go.Proofs.YtdmfladcldkmeaaDoor
open Go.ChangeShapes Go.WideShapes Go.ChangeAt Go.RowKit
set_option linter.unusedVariables false
set_option maxRecDepth 100000

/-- Whether a number is of the k-th class. -/
def cls (r : Int) : Nat → Bool
  | 0 => hasT charT r
  | 1 => blankB r
  | 2 => hasT startT r
  | 3 => hasT followT r || hasT startT r
  | _ => hasT pubidT r
def bitN (b : Bool) (v : Nat) : Nat := match b with | true => v | false => 0
def sumN (r : Int) : Nat → Nat
  | 0 => 0
  | k + 1 => sumN r k + bitN (cls r k) (2 ^ k)
theorem bitN_le (b : Bool) (v : Nat) : bitN b v ≤ v := by cases b <;> simp [bitN]
theorem sumN_lt (r : Int) : ∀ k, sumN r k < 2 ^ k
  | 0 => by simp [sumN]
  | k + 1 => by have := sumN_lt r k; have := bitN_le (cls r k) (2 ^ k); rw [sumN, Nat.pow_succ]; omega
theorem bor_all : ∀ k < 5, ∀ m < 2 ^ k, bits .or .i64 ((m : Nat) : Int) ((2 ^ k : Nat) : Int) = ((m + 2 ^ k : Nat) : Int) := by decide

theorem blankB_any (r : Int) (w : World) :
    Calls Tryd.prog 75 #[.int .i64 r] w fun e w' => e = .returned (.bool (blankB r)) ∧ Below w.heap.size w w' :=
  (blank_any r w).mono (by rintro e w' ⟨h, rfl⟩; exact ⟨h, Below.refl _ _⟩)


set_option maxRecDepth 100000 in
set_option maxHeartbeats 2000000 in
theorem rclasses_any (r : Int) (w : World) :
    Calls Tryd.prog 150 #[.int .i64 r] w fun e w' => e = .returned (.int .i64 (sumN r 5)) ∧ w = w' := by
  have H := show sumN r 5 = bitN (cls r 0) 1 + bitN (cls r 1) 2 + bitN (cls r 2) 4 + bitN (cls r 3) 8 + bitN (cls r 4) 16 by simp [sumN]
  have C0 := show ∀ w : World, Calls Tryd.prog 128 #[.int .i64 r] w fun e w' => e = .returned (.bool (cls r 0)) ∧ w = w' from rchar3_any r
  have C1 := show ∀ w : World, Calls Tryd.prog 76 #[.int .i64 r] w fun e w' => e = .returned (.bool (cls r 1)) ∧ w = w' from rblank_any r
  have C2 := show ∀ w : World, Calls Tryd.prog 135 #[.int .i64 r] w fun e w' => e = .returned (.bool (cls r 2)) ∧ w = w' from rstart_any r
  have C3 := show ∀ w : World, Calls Tryd.prog 134 #[.int .i64 r] w fun e w' => e = .returned (.bool (cls r 3)) ∧ w = w' from rname_any r
  have C4 := show ∀ w : World, Calls Tryd.prog 180 #[.int .i64 r] w fun e w' => e = .returned (.bool (cls r 4)) ∧ w = w' from rpubid_any r
  obtain ⟨q0, h0⟩ : ∃ q, cls r 0 = q := ⟨_, rfl⟩
  obtain ⟨q1, h1⟩ : ∃ q, cls r 1 = q := ⟨_, rfl⟩
  obtain ⟨q2, h2⟩ : ∃ q, cls r 2 = q := ⟨_, rfl⟩
  obtain ⟨q3, h3⟩ : ∃ q, cls r 3 = q := ⟨_, rfl⟩
  obtain ⟨q4, h4⟩ : ∃ q, cls r 4 = q := ⟨_, rfl⟩
  rw [h0] at H C0; rw [h1] at H C1; rw [h2] at H C2; rw [h3] at H C3; rw [h4] at H C4
  have G := Lib.hid H
  have K0 := Lib.hid C0; have K1 := Lib.hid C1; have K2 := Lib.hid C2; have K3 := Lib.hid C3; have K4 := Lib.hid C4
  clear H C0 C1 C2 C3 C4 h0 h1 h2 h3 h4
  have one_call : ∀ (b : Bool) (w : World), Calls Tryd.prog 179 #[.bool b] w fun e w' => e = .returned (.int .i64 (bitN b 1)) ∧ w = w' := fun b w => (one_any b w).mono (by rintro e w' ⟨rfl, rfl⟩; cases b <;> exact ⟨rfl, rfl⟩)
  have ONE := Lib.hid one_call
  clear one_call
  have E : ∀ b : Bool, ∀ v : Nat, bitN b v = v * bitN b 1 := by intro b v; cases b <;> simp [bitN]
  have b0 := bitN_le q0 1; have b1 := bitN_le q1 1; have b2 := bitN_le q2 1; have b3 := bitN_le q3 1; have b4 := bitN_le q4 1
  rw [G.out, E q1 2, E q2 4, E q3 8, E q4 16]
  clear E
  have G := True.intro
  go_enter Tryd.func150, Tryd.ntmps150
  go_wp2_with (first
    | (go_at_call 179; refine (ONE.out _ _).mono ?_; rintro e w1 ⟨rfl, rfl⟩)
    | (go_at_call 128; refine (K0.out _).mono ?_; rintro e w1 ⟨rfl, rfl⟩)
    | (go_at_call 76; refine (K1.out _).mono ?_; rintro e w1 ⟨rfl, rfl⟩)
    | (go_at_call 135; refine (K2.out _).mono ?_; rintro e w1 ⟨rfl, rfl⟩)
    | (go_at_call 134; refine (K3.out _).mono ?_; rintro e w1 ⟨rfl, rfl⟩)
    | (go_at_call 180; refine (K4.out _).mono ?_; rintro e w1 ⟨rfl, rfl⟩))
  go_ret
  exact ⟨ret_int (by omega), rfl⟩

theorem cls_of (r : Int) (k : Nat) (hk : k < 5) : (sumN r 5 / 2 ^ k) % 2 = bitN (cls r k) 1 := by
  have H := show sumN r 5 = bitN (cls r 0) 1 + bitN (cls r 1) 2 + bitN (cls r 2) 4 + bitN (cls r 3) 8 + bitN (cls r 4) 16 by simp [sumN]
  rw [H]
  have D : k = 0 ∨ k = 1 ∨ k = 2 ∨ k = 3 ∨ k = 4 := by omega
  clear H hk
  rcases D with rfl | rfl | rfl | rfl | rfl
  all_goals
    generalize cls r 0 = q0; generalize cls r 1 = q1; generalize cls r 2 = q2; generalize cls r 3 = q3; generalize cls r 4 = q4
    cases q0 <;> cases q1 <;> cases q2 <;> cases q3 <;> cases q4 <;> rfl

set_option maxRecDepth 100000 in
set_option maxHeartbeats 2000000 in
theorem rcls_any (n : Nat) (hn : n < 5) (r : Int) (w : World) :
    Calls Tryd.prog 119 #[.int .i64 n, .int .i64 r] w fun e w' => e = .returned (.bool (cls r n)) ∧ w = w' := by
  have HC := Lib.hid (rclasses_any r)
  have HE := Lib.hid (cls_of r n hn)
  obtain ⟨q, hq⟩ : ∃ q, cls r n = q := ⟨_, rfl⟩
  rw [hq] at HE
  rw [hq]
  have hlt := sumN_lt r 5
  obtain ⟨m, hm⟩ : ∃ m, sumN r 5 = m := ⟨_, rfl⟩
  rw [hm] at HC HE hlt
  clear hq hm
  go_enter Tryd.func119, Tryd.ntmps119
  go_wp2_with (go_at_call 150; refine (HC.out _).mono ?_; rintro e w1 ⟨rfl, rfl⟩)
  go_loop [5, 6] (fun v i => ∃ k : Nat, k ≤ n ∧ i = .int .i64 k ∧ v = .int .i64 ((m / 2 ^ k : Nat) : Int)) (fun _ i => n - (intOf i).toNat)
  case atStart => exact ⟨0, by omega, rfl, by simp⟩
  case round =>
    obtain ⟨k, hk, rfl, rfl⟩ := hrel
    have h2 : m / 2 ^ (k + 1) = m / 2 ^ k / 2 := by rw [Nat.pow_succ, Nat.div_div_eq_div_mul]
    have H2 := Lib.hid h2
    have hv : m / 2 ^ k ≤ m := Nat.div_le_self _ _
    clear h2
    by_cases hkn : k < n
    · obtain ⟨v, hv'⟩ : ∃ v, m / 2 ^ k = v := ⟨_, rfl⟩
      rw [hv'] at H2 hv ⊢
      clear hv'
      go_wp2_with fail
      go_round
      case rel => exact ⟨k + 1, by omega, by go_num, by rw [H2.out]; first | rfl | simp⟩
      case measure => simp [intOf]; omega
    · obtain rfl : k = n := by omega
      have hE := HE.out
      obtain ⟨v, hv'⟩ : ∃ v, m / 2 ^ k = v := ⟨_, rfl⟩
      rw [hv'] at hE hv ⊢
      have HE2 := Lib.hid hE
      clear hv' hE HE H2
      go_wp2_with fail
      go_ret
      have hE := HE2.out
      refine ⟨ret_bool ?_, rfl⟩
      cases q
      · simp [bitN] at hE; simp; omega
      · simp [bitN] at hE; simp; omega
end Go.Proofs.YtdmfladcldkmeaaDoor
namespace Go.Proofs.YtdmfladcldkmeaaDoor
open Go.ChangeShapes Go.WideShapes Go.ChangeAt Go.RowKit
set_option linter.unusedVariables false
set_option maxRecDepth 100000

theorem seesR {w : World} {A : Option Addr} {l : List Int} (h : Sees w A (l.map (Value.int .i64))) {k : Nat} (hk : k < l.length) : ∃ ad, A = some ad ∧ w.cell? (ad.add k) = some (.int .i64 l[k]) := by
  obtain ⟨ad, u, e, hu, hc⟩ := h.at (k := k) (by simpa using hk)
  rw [List.getElem?_map, List.getElem?_eq_getElem hk] at hu
  injection hu with hu
  exact ⟨ad, e, by rw [hc, ← hu]⟩
theorem all_nextR (xs : List Int) (P : Int → Bool) (j : Nat) (hj : j < xs.length) : (xs.take (j + 1)).all P = ((xs.take j).all P && P (xs[j]'hj)) := by
  rw [List.take_succ_eq_append_getElem hj, List.all_append]; simp
theorem all_missR (xs : List Int) (P : Int → Bool) (j : Nat) (hj : j < xs.length) (h : P (xs[j]'hj) = false) : xs.all P = false :=
  List.all_eq_false.2 ⟨xs[j], List.getElem_mem hj, by simp [h]⟩

set_option maxHeartbeats 2000000 in
theorem rallR_good (A : Option Addr) (len cap n : Nat) (xs : List Int) (P : Int → Bool) (W : World) (hn : xs.length = n) (hsmall : n ≤ 17592186044416) (k : Nat)
    (C : ∀ x w1, Calls Tryd.prog 119 #[.int .i64 k, .int .i64 x] w1 fun e w' => e = .returned (.bool (P x)) ∧ w1 = w')
    (RG : ∀ w1, Below W.heap.size W w1 → Calls Tryd.prog 96 #[.slice A len cap] w1 fun e w' => ∃ A' c', e = .returned (.tuple #[.slice A' n c', .int .i64 (-1)]) ∧ Sees w' A' (xs.map (Value.int .i64)) ∧ Below W.heap.size W w') :
    ∀ w1, Below W.heap.size W w1 → Calls Tryd.prog 85 #[.slice A len cap, .int .i64 k] w1 fun e w' => e = .returned (.bool (xs.all P)) ∧ Below W.heap.size W w' := by
  intro w1 hB1
  have HN := Lib.hid hn; have HC := Lib.hid C; have HR := Lib.hid RG
  clear hn C RG
  go_enter Tryd.func85, Tryd.ntmps85
  go_wp2_with (go_at_call 96; refine (HR.out _ (by assumption)).mono ?_; rintro e w2 ⟨A', c', rfl, hs2, hb2⟩)
  go_loopw [7] (fun i wr => ∃ j : Nat, j ≤ n ∧ i = .int .i64 j ∧ (xs.take j).all P = true ∧ Below W.heap.size W wr ∧ Sees wr A' (xs.map (Value.int .i64))) (fun i _ => n - (intOf i).toNat)
  case atStart => exact ⟨0, by omega, rfl, rfl, hb2, hs2⟩
  case round =>
    obtain ⟨j, hj, rfl, hall, hB, hs⟩ := hrel
    have hsW := hB.size
    have HALL := Lib.hid hall
    clear hall hs2
    by_cases hlt : j < n
    · have hjl : j < xs.length := by rw [HN.out]; exact hlt
      obtain ⟨ad, rfl, hc⟩ := seesR hs hjl
      have HT := Lib.hid (all_nextR xs P j hjl)
      have HM := Lib.hid (all_missR xs P j hjl)
      obtain ⟨x, hx⟩ : ∃ x, (xs[j]'hjl) = x := ⟨_, rfl⟩
      rw [hx] at hc HT HM
      have h1 := HC.out x wr
      obtain ⟨q, hq⟩ : ∃ q, P x = q := ⟨_, rfl⟩
      rw [hq] at h1 HT HM
      have H1 := Lib.hid h1
      have HS := Lib.hid hs
      clear h1 hq hx hs hjl
      cases q with
      | true =>
        go_wp2_with (go_at_call 119; refine H1.out.mono ?_; rintro e w3 ⟨rfl, rfl⟩)
        go_roundw
        case rel => exact ⟨j + 1, by omega, by go_num, by rw [HT.out, HALL.out]; rfl, hB, HS.out⟩
        case measure => simp [intOf]; omega
      | false =>
        go_wp2_with (go_at_call 119; refine H1.out.mono ?_; rintro e w3 ⟨rfl, rfl⟩)
        go_ret
        exact ⟨ret_bool (by rw [HM.out (by trivial)]), hB⟩
    · obtain rfl : j = n := by omega
      have e := HALL.out
      rw [List.take_of_length_le (by rw [HN.out]; omega)] at e
      have HE := Lib.hid e
      clear e hs
      go_wp2_with fail
      go_ret
      exact ⟨ret_bool (by rw [HE.out]), hB⟩

theorem rallR_bad (A : Option Addr) (len cap : Nat) (W : World) (k m : Nat)
    (RB : ∀ w1, Below W.heap.size W w1 → Calls Tryd.prog 96 #[.slice A len cap] w1 fun e w' => e = .returned (.tuple #[.slice none 0 0, .int .i64 m]) ∧ Below W.heap.size W w') :
    ∀ w1, Below W.heap.size W w1 → Calls Tryd.prog 85 #[.slice A len cap, .int .i64 k] w1 fun e w' => e = .returned (.bool false) ∧ Below W.heap.size W w' := by
  intro w1 hB1
  have HR := Lib.hid RB
  clear RB
  go_enter Tryd.func85, Tryd.ntmps85
  go_wp2_with (go_at_call 96; refine (HR.out _ (by assumption)).mono ?_; rintro e w2 ⟨rfl, hb2⟩)
  go_ret
  exact ⟨rfl, hb2⟩

theorem ris3_any (r : Int) (w : World) :
    Calls Tryd.prog 119 #[.int .i64 3, .int .i64 r] w fun e w' => e = .returned (.bool (hasT followT r || hasT startT r)) ∧ w = w' := rcls_any 3 (by omega) r w
end Go.Proofs.YtdmfladcldkmeaaDoor
namespace Go.Proofs.YtdmfladcldkmeaaDoor
open Go.ChangeShapes Go.WideShapes Go.ChangeAt Go.RowKit
set_option linter.unusedVariables false

theorem seesN {w : World} {A : Option Addr} {l : List Int} (h : Sees w A (l.map (Value.int .i64))) {k : Nat} (hk : k < l.length) : ∃ ad, A = some ad ∧ w.cell? (ad.add k) = some (.int .i64 l[k]) := by
  obtain ⟨ad, u, e, hu, hc⟩ := h.at (k := k) (by simpa using hk)
  rw [List.getElem?_map, List.getElem?_eq_getElem hk] at hu
  injection hu with hu
  exact ⟨ad, e, by rw [hc, ← hu]⟩
theorem notNil_4 : ∀ w : World, (binOp .eql 117 (.func (.func 84) #[] #[]) .nilFunc).run Tryd.prog w = .ok (.bool false) w := fun _ => by kernel_rfl
theorem all_next (xs : List Int) (P : Int → Bool) (j : Nat) (hj : j < xs.length) : (xs.take (j + 1)).all P = ((xs.take j).all P && P (xs[j]'hj)) := by
  rw [List.take_succ_eq_append_getElem hj, List.all_append]; simp
theorem all_miss (xs : List Int) (P : Int → Bool) (j : Nat) (hj : j < xs.length) (h : P (xs[j]'hj) = false) : xs.all P = false :=
  List.all_eq_false.2 ⟨xs[j], List.getElem_mem hj, by simp [h]⟩

set_option maxRecDepth 100000 in
set_option maxHeartbeats 2000000 in
theorem all_good_4 (A : Option Addr) (len cap n : Nat) (xs : List Int) (P : Int → Bool) (W : World) (hn : xs.length = n) (hsmall : n ≤ 17592186044416)
    (C : ∀ x w1, Below W.heap.size W w1 → Calls Tryd.prog 84 #[.int .i64 x] w1 fun e w' => e = .returned (.bool (P x)) ∧ Below w1.heap.size w1 w')
    (RG : ∀ w1, Below W.heap.size W w1 → Calls Tryd.prog 92 #[.slice A len cap] w1 fun e w' => ∃ A' c', e = .returned (.tuple #[.slice A' n c', .int .i64 0]) ∧ Sees w' A' (xs.map (Value.int .i64)) ∧ Below W.heap.size W w') :
    ∀ w1, Below W.heap.size W w1 → Calls Tryd.prog 83 #[.slice A len cap, .func (.func 84) #[] #[]] w1 fun e w' => e = .returned (.bool (xs.all P)) ∧ Below W.heap.size W w' := by
  intro w1 hB1
  have HN := Lib.hid hn; have HC := Lib.hid C; have HR := Lib.hid RG
  clear hn C RG
  have hnil := notNil_4
  go_enter Tryd.func83, Tryd.ntmps83
  go_wp2_with (go_at_call 92; refine (HR.out _ (by assumption)).mono ?_; rintro e w2 ⟨A', c', rfl, hs2, hb2⟩)
  go_loopw [20] (fun i wr => ∃ j : Nat, j ≤ n ∧ i = .int .i64 j ∧ (xs.take j).all P = true ∧ Below W.heap.size W wr ∧ Sees wr A' (xs.map (Value.int .i64))) (fun i _ => n - (intOf i).toNat)
  case atStart => exact ⟨0, by omega, rfl, rfl, hb2, hs2⟩
  case round =>
    obtain ⟨j, hj, rfl, hall, hB, hs⟩ := hrel
    have hsW := hB.size
    have HALL := Lib.hid hall
    clear hall hs2
    by_cases hlt : j < n
    · have hjl : j < xs.length := by rw [HN.out]; exact hlt
      obtain ⟨ad, rfl, hc⟩ := seesN hs hjl
      have HT := Lib.hid (all_next xs P j hjl)
      have HM := Lib.hid (all_miss xs P j hjl)
      obtain ⟨x, hx⟩ : ∃ x, (xs[j]'hjl) = x := ⟨_, rfl⟩
      rw [hx] at hc HT HM
      have h1 := HC.out x wr hB
      obtain ⟨q, hq⟩ : ∃ q, P x = q := ⟨_, rfl⟩
      rw [hq] at h1 HT HM
      have H1 := Lib.hid h1
      have HS := Lib.hid hs
      clear h1 hq hx hs hjl
      cases q with
      | true =>
        go_wp2_with (go_at_call 84; refine H1.out.mono ?_; rintro e w3 ⟨rfl, hb3⟩)
        go_roundw
        case rel => exact ⟨j + 1, by omega, by go_num, by rw [HT.out, HALL.out]; rfl, hB.trans (hb3.mono hsW), HS.out.below hb3⟩
        case measure => simp [intOf]; omega
      | false =>
        go_wp2_with (go_at_call 84; refine H1.out.mono ?_; rintro e w3 ⟨rfl, hb3⟩)
        go_ret
        exact ⟨ret_bool (by rw [HM.out (by trivial)]), hB.trans (hb3.mono hsW)⟩
    · obtain rfl : j = n := by omega
      have e := HALL.out
      rw [List.take_of_length_le (by rw [HN.out]; omega)] at e
      have HE := Lib.hid e
      clear e hs
      go_wp2_with fail
      go_ret
      exact ⟨ret_bool (by rw [HE.out]), hB⟩
theorem all_bad_4 (A : Option Addr) (len cap : Nat) (W : World)
    (RB : ∀ w1, Below W.heap.size W w1 → Calls Tryd.prog 92 #[.slice A len cap] w1 fun e w' => e = .returned (.tuple #[.slice none 0 0, .int .i64 5]) ∧ Below W.heap.size W w') :
    ∀ w1, Below W.heap.size W w1 → Calls Tryd.prog 83 #[.slice A len cap, .func (.func 84) #[] #[]] w1 fun e w' => e = .returned (.bool false) ∧ Below W.heap.size W w' := by
  intro w1 hB1
  have HR := Lib.hid RB
  clear RB
  have hnil := notNil_4
  go_enter Tryd.func83, Tryd.ntmps83
  go_wp2_with (go_at_call 92; refine (HR.out _ (by assumption)).mono ?_; rintro e w2 ⟨rfl, hb2⟩)
  go_ret
  exact ⟨rfl, hb2⟩

/-- Are all its characters of a public identifier? -/
def pubB (l : List UInt8) : Bool := match badS l with | none => (runesS l).all fun x => cls x 4 | some _ => false
theorem pubAll_any (l : List UInt8) (A : Option Addr) (len cap : Nat) (w : World) (hlen : l.length = len) (hnc : len ≤ cap) (hcap : cap ≤ 9223372036854775807) (hl : len ≤ 1000000) (hs : Sees w A (vB l)) (ht : Tables w) :
    Calls Tryd.prog 83 #[.slice A len cap, .func (.func 84) #[] #[]] w fun e w' => e = .returned (.bool (pubB l)) ∧ Below w.heap.size w w' := by
  unfold pubB
  cases hb : badS l with
  | none =>
    have hn : (runesS l).length ≤ 17592186044416 := by unfold runesS; rw [List.length_map]; have := stepsS_len l; omega
    have RG : ∀ w1, Below w.heap.size w w1 → Calls Tryd.prog 92 #[.slice A len cap] w1 fun e w' => ∃ A' c', e = .returned (.tuple #[.slice A' (runesS l).length c', .int .i64 0]) ∧ Sees w' A' ((runesS l).map (Value.int .i64)) ∧ Below w.heap.size w w' :=
      fun w1 hB => (runes_any A len cap l hlen hnc hcap (by omega) w1 (hs.below hB)).mono fun e W' ⟨h1, _, hb'⟩ => by
        obtain ⟨v, he, ho⟩ := h1 hb
        obtain ⟨A', c', rfl⟩ := ownsRow_form ho
        exact ⟨A', c', he, sees_own ho, hB.trans (hb'.mono hB.size)⟩
    exact all_good_4 A len cap _ _ (fun x => cls x 4) w rfl hn (fun x w1 hB => pubid_any x w1 (ht.below hB)) RG w (Below.refl _ _)
  | some m =>
    have RB : ∀ w1, Below w.heap.size w w1 → Calls Tryd.prog 92 #[.slice A len cap] w1 fun e w' => e = .returned (.tuple #[.slice none 0 0, .int .i64 5]) ∧ Below w.heap.size w w' :=
      fun w1 hB => (runes_any A len cap l hlen hnc hcap (by omega) w1 (hs.below hB)).mono fun e W' ⟨_, h2, hb'⟩ => ⟨h2 (by rw [hb]; simp), hB.trans (hb'.mono hB.size)⟩
    exact all_bad_4 A len cap w RB w (Below.refl _ _)
theorem rpubAll_any (l : List UInt8) (A : Option Addr) (len cap : Nat) (w : World) (hlen : l.length = len) (hl : len ≤ 1000000) (hs : Sees w A (vB l)) :
    Calls Tryd.prog 85 #[.slice A len cap, .int .i64 4] w fun e w' => e = .returned (.bool (pubB l)) ∧ Below w.heap.size w w' := by
  unfold pubB
  cases hb : badS l with
  | none =>
    have hn : (runesS l).length ≤ 17592186044416 := by unfold runesS; rw [List.length_map]; have := stepsS_len l; omega
    have RG2 : ∀ w1, Below w.heap.size w w1 → Calls Tryd.prog 96 #[.slice A len cap] w1 fun e w' => ∃ A' c', e = .returned (.tuple #[.slice A' (runesS l).length c', .int .i64 (-1)]) ∧ Sees w' A' ((runesS l).map (Value.int .i64)) ∧ Below w.heap.size w w' :=
      fun w1 hB => (rrunes_any A len cap l hlen (by omega) w1 (hs.below hB)).mono fun e W' ⟨h1, _, hb'⟩ => by
        obtain ⟨v, he, ho⟩ := h1 hb
        obtain ⟨A', c', rfl⟩ := ownsRow_form ho
        exact ⟨A', c', he, sees_own ho, hB.trans (hb'.mono hB.size)⟩
    exact rallR_good A len cap _ _ (fun x => cls x 4) w rfl hn 4 (fun x w1 => rcls_any 4 (by omega) x w1) RG2 w (Below.refl _ _)
  | some m =>
    have RB2 : ∀ w1, Below w.heap.size w w1 → Calls Tryd.prog 96 #[.slice A len cap] w1 fun e w' => e = .returned (.tuple #[.slice none 0 0, .int .i64 m]) ∧ Below w.heap.size w w' :=
      fun w1 hB => (rrunes_any A len cap l hlen (by omega) w1 (hs.below hB)).mono fun e W' ⟨_, h2, hb'⟩ => ⟨h2 m hb, hB.trans (hb'.mono hB.size)⟩
    exact rallR_bad A len cap w 4 m RB2 w (Below.refl _ _)
end Go.Proofs.YtdmfladcldkmeaaDoor
namespace Go.Proofs.YtdmfladcldkmeaaDoor
open Go.ChangeShapes Go.WideShapes Go.ChangeAt Go.RowKit
set_option linter.unusedVariables false
set_option maxRecDepth 100000

def pubE (s : List UInt8) : Int := if pubB s = true then 0 else 7
def pubT (l : List UInt8) (k : Int) : Trip := chkT [pubE] (quoT l k)
theorem enters_pub : Enters 152 := fun _ _ => by kernel_rfl
set_option maxHeartbeats 1000000 in
theorem public1_any (s : List UInt8) (w : World) (hs : s.length ≤ 1000000) (ht : Tables w) :
    Calls Tryd.prog 152 #[strV s] w fun e w' => e = .returned (.int .i64 (pubE s)) ∧ Below w.heap.size w w' := by
  obtain ⟨B, cap, W1, hrun, hc1, hc2, hb1, hBl, hBw, hs1⟩ := bytes_made s w hs
  have H := pubAll_any s (some ⟨B, 0, none⟩) s.length cap W1 rfl hc1 hc2 hs hs1 (ht.below hb1)
  unfold pubE
  cases hq : pubB s with
  | true =>
    rw [hq] at H
    have HH := Lib.hid H
    rw [if_pos rfl]
    clear H hs1 hq ht
    go_enter Tryd.func152, Tryd.ntmps152
    go_wp2_with fail
    refine HH.out.mono ?_
    rintro e w2 ⟨rfl, hb2⟩
    go_wp2_with fail
    go_ret
    exact ⟨rfl, hb1.trans (hb2.mono hb1.size)⟩
  | false =>
    rw [hq] at H
    have HH := Lib.hid H
    rw [if_neg (by simp)]
    clear H hs1 hq ht
    go_enter Tryd.func152, Tryd.ntmps152
    go_wp2_with fail
    refine HH.out.mono ?_
    rintro e w2 ⟨rfl, hb2⟩
    go_wp2_with fail
    go_ret
    exact ⟨rfl, hb1.trans (hb2.mono hb1.size)⟩
theorem checked_pub (l : List UInt8) (A : Option Addr) (n c : Nat) (k : Int) (w : World)
    (hn : l.length = n) (hnc : n ≤ c) (hm : c ≤ 9223372036854775807) (hk : I64 k) (hn9 : n ≤ 1000000) (hs : Sees w A (vB l)) (ht : Tables w) :
    Calls Tryd.prog 151 #[.slice A n c, .int .i64 k, .slice (some ⟨w.heap.size, 0, none⟩) 1 1] (w.alloc (.cells #[.func (.func 152) #[] #[]] 126))
      fun e w' => e = .returned (trV (pubT l k)) ∧ Below w.heap.size w w' := by
  obtain ⟨W, hW⟩ : ∃ W, w.alloc (.cells #[.func (.func 152) #[] #[]] 126) = W := ⟨_, rfl⟩
  have hb : Below w.heap.size w W := hW ▸ (Below.refl _ w).alloc (Nat.le_refl _) _
  have hS : Sees W (some ⟨w.heap.size, 0, none⟩) (([(152, #[], pubE)] : List Chk).map chkV) := by
    rw [← hW]
    exact sees_lit w [.func (.func 152) #[] #[]] 126 (0, 0)
  rw [hW]
  have h := checked_any [(152, #[], pubE)] l A (some ⟨w.heap.size, 0, none⟩) n c 1 1 k W hn hnc hm hk hn9 (hs.below hb) rfl (by omega) hS (fun x hx => by
    obtain rfl : x = (152, #[], pubE) := by simpa using hx
    exact ⟨enters_pub, fun s w' hs' hb' => public1_any s w' hs' ((ht.below hb).below hb')⟩)
  exact h.mono fun e w' ⟨he, hb'⟩ => ⟨he, hb.trans (hb'.mono hb.size)⟩
set_option maxHeartbeats 1000000 in
theorem litPublic_any (l : List UInt8) (A : Option Addr) (n c : Nat) (k : Int) (w : World)
    (hn : l.length = n) (hnc : n ≤ c) (hm : c ≤ 9223372036854775807) (hk : I64 k) (hn9 : n ≤ 1000000) (hs : Sees w A (vB l)) (ht : Tables w) :
    Calls Tryd.prog 121 #[.slice A n c, .int .i64 k] w fun e w' => e = .returned (trV (pubT l k)) ∧ Below w.heap.size w w' := by
  have H := checked_pub l A n c k w hn hnc hm hk hn9 hs ht
  obtain ⟨s, y, e0, hv⟩ : ∃ s y e, trV (pubT l k) = .tuple #[.string s, .int .i64 y, .int .i64 e] := ⟨_, _, _, rfl⟩
  rw [hv] at H ⊢
  have HH := Lib.hid H
  clear H hv hs ht hn
  go_enter Tryd.func121, Tryd.ntmps121
  go_wp2_with fail
  refine HH.out.mono ?_
  rintro e w1 ⟨rfl, hb⟩
  go_wp2_with fail
  go_ret3
  exact ⟨rfl, hb⟩

set_option maxHeartbeats 2000000 in
theorem rpublic_any (l : List UInt8) (A : Option Addr) (n c : Nat) (k : Int) (w : World)
    (hn : l.length = n) (hnc : n ≤ c) (hm : c ≤ 9223372036854775807) (hk : I64 k) (hn9 : n ≤ 1000000) (hs : Sees w A (vB l)) :
    Calls Tryd.prog 116 #[.slice A n c, .int .i64 k] w fun e w' => e = .returned (trV (pubT l k)) ∧ Below w.heap.size w w' := by
  have HQ := rquoted_any l A n c k w hn hnc hm hk hn9 hs
  have hqe := quoT_err l k
  have hql := quoT_len l k
  unfold pubT chkT
  obtain ⟨s, y, e0, hq⟩ : ∃ s y e0, quoT l k = (s, y, e0) := ⟨_, _, _, rfl⟩
  rw [hq] at HQ hqe hql ⊢
  simp only at hqe hql ⊢
  by_cases h0 : e0 = 0
  · subst h0
    rw [if_neg (by simp)]
    unfold trV at HQ
    have H := Lib.hid HQ
    have hsl : s.length ≤ 1000000 := by omega
    have HP := fun (w' : World) (A' : Option Addr) (cap : Nat) (hs' : Sees w' A' (vB s)) => rpubAll_any s A' s.length cap w' rfl hsl hs'
    cases hb : pubB s with
    | true =>
      have hc : chk [pubE] s = 0 := by
        have hw : pubE s = 0 := by unfold pubE; rw [hb, if_pos rfl]
        show (if pubE s ≠ 0 then pubE s else (0 : Int)) = 0
        rw [hw, if_neg (by omega)]
      rw [hc, if_neg (by omega)]
      rw [hb] at HP
      have KP := Lib.hid HP
      unfold trV
      clear HQ HP hqe hql hq hs hn hb hc
      go_enter Tryd.func116, Tryd.ntmps116
      go_wp2_with fail
      refine H.out.mono ?_
      rintro e w1 ⟨rfl, hb1⟩
      obtain ⟨B, cap, W1, hrun, hc1, hc2, hbm, hBl, hBw, hs1⟩ := bytes_made s w1 hsl
      have hb2 := hb1.trans (hbm.mono hb1.size)
      have HS1 := Lib.hid hs1
      clear hs1
      go_wp2_with fail
      refine (KP.out W1 _ cap HS1.out).mono ?_
      rintro e w2 ⟨rfl, hb3⟩
      go_wp2_with fail
      go_ret3
      exact ⟨rfl, hb2.trans (hb3.mono hb2.size)⟩
    | false =>
      have hc : chk [pubE] s = 7 := by
        have hw : pubE s = 7 := by unfold pubE; rw [hb, if_neg (by simp)]
        show (if pubE s ≠ 0 then pubE s else (0 : Int)) = 7
        rw [hw, if_pos (by omega)]
      rw [hc, if_pos (by omega), trV_no]
      rw [hb] at HP
      have KP := Lib.hid HP
      clear HQ HP hqe hql hq hs hn hb hc
      go_enter Tryd.func116, Tryd.ntmps116
      go_wp2_with fail
      refine H.out.mono ?_
      rintro e w1 ⟨rfl, hb1⟩
      obtain ⟨B, cap, W1, hrun, hc1, hc2, hbm, hBl, hBw, hs1⟩ := bytes_made s w1 hsl
      have hb2 := hb1.trans (hbm.mono hb1.size)
      have HS1 := Lib.hid hs1
      clear hs1
      go_wp2_with fail
      refine (KP.out W1 _ cap HS1.out).mono ?_
      rintro e w2 ⟨rfl, hb3⟩
      go_wp2_with fail
      go_ret3
      exact ⟨rfl, hb2.trans (hb3.mono hb2.size)⟩
  · rw [if_pos h0]
    have hqe := hqe h0
    rw [hqe] at HQ
    rw [trV_no] at HQ ⊢
    have t1 : (e0 != 0) = true := by simpa using h0
    have H := Lib.hid HQ
    clear HQ hqe hql hq hs hn h0
    go_enter Tryd.func116, Tryd.ntmps116
    go_wp2_with fail
    refine H.out.mono ?_
    rintro e w1 ⟨rfl, hb1⟩
    go_wp2_with fail
    go_ret3
    exact ⟨rfl, hb1⟩
end Go.Proofs.YtdmfladcldkmeaaDoor
