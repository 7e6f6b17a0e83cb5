/- Contracts of package chars: who goes through a table. Names: where a row of characters ends, over any two functions that say yes or no. Contracts of those who range over the characters of a text: Len, Check, Runes. Contract of Check: the first place at which there is no character. Contract of Runes: all characters' numbers. -/
import Derived.BigQuiet
import Derived.RangeFuncBox
import Derived.Test.YtdmfladcldkmeaaDoorPkab
namespace Go.Proofs.YtdmfladcldkmeaaDoor
open Go.ChangeShapes Go.WideShapes Go.ChangeAt Go.RowKit
set_option linter.unusedVariables false
set_option maxRecDepth 100000

theorem hasT_succ (T : List (Int × Int)) (k : Nat) (r : Int) (h : k < T.length) : hasT (T.take (k + 1)) r = (hasT (T.take k) r || (decide ((T[k]'h).1 ≤ r) && decide (r ≤ (T[k]'h).2))) := by
  unfold hasT; rw [List.take_succ_eq_append_getElem h, List.any_append]; simp
theorem hasT_mem (T : List (Int × Int)) (k : Nat) (r : Int) (h : k < T.length) (hq : (decide ((T[k]'h).1 ≤ r) && decide (r ≤ (T[k]'h).2)) = true) : hasT T r = true := by
  unfold hasT
  rw [List.any_eq_true]
  exact ⟨T[k], List.getElem_mem h, hq⟩

theorem idx_charT (k : Nat) (h : k < 5) : ∀ w : World, (Instr.index 191 (.agg (flatT charT).toArray) (.int .i64 (k : Int))).run Tryd.prog w = .ok (.agg #[.int .i64 (charT[k]'h).1, .int .i64 (charT[k]'h).2]) w := by
  match k, h with
  | 0, _ => exact fun _ => by kernel_rfl
  | 1, _ => exact fun _ => by kernel_rfl
  | 2, _ => exact fun _ => by kernel_rfl
  | 3, _ => exact fun _ => by kernel_rfl
  | 4, _ => exact fun _ => by kernel_rfl

set_option maxRecDepth 100000 in
set_option maxHeartbeats 1000000 in
theorem char_c (r : Int) (w : World) (ht : TabC w) :
    Calls Tryd.prog 130 #[.int .i64 r] w fun e w' => e = .returned (.bool (hasT charT r)) ∧ Below w.heap.size w w' := by
  obtain ⟨tt, fr, hg⟩ := ht.char
  have HT := Lib.hid ht
  clear ht
  go_enter Tryd.func130, Tryd.ntmps130
  go_wp2_with (refine wpList_load_row rfl 191 _ rfl 1 rfl tt (flatT charT).toArray fr _ hg Tryd.underlying191 rfl (by kernel_rfl) ?_)
  clear hg
  go_loopw [6] (fun i wr => ∃ k : Nat, k ≤ 5 ∧ i = .int .i64 k ∧ hasT (charT.take k) r = false ∧ Below w.heap.size w wr) (fun i _ => 5 - (intOf i).toNat)
  case atStart => exact ⟨0, by omega, rfl, rfl, Below.refl _ _⟩
  case round =>
    obtain ⟨k, hk, rfl, hno, hB⟩ := hrel
    have HNO := Lib.hid hno
    have hsW := hB.size
    clear hno
    by_cases hlt : k < 5
    · have hix := idx_charT k hlt
      have HS := Lib.hid (hasT_succ charT k r hlt)
      have HY := Lib.hid (hasT_mem charT k r hlt)
      obtain ⟨a, ha⟩ : ∃ a, (charT[k]'hlt).1 = a := ⟨_, rfl⟩
      obtain ⟨b, hb⟩ : ∃ b, (charT[k]'hlt).2 = b := ⟨_, rfl⟩
      rw [ha, hb] at hix HS HY
      clear ha hb
      obtain ⟨q, hq⟩ : ∃ q, (decide (a ≤ r) && decide (r ≤ b)) = q := ⟨_, rfl⟩
      have HC := fun w => has_any a b r w
      rw [hq] at HC HS HY
      have HH := Lib.hid HC
      clear hq HC
      cases q with
      | true =>
        go_wp2_with (go_at_call 118; refine (HH.out _).mono ?_; rintro e w1 ⟨rfl, hb1⟩)
        go_ret
        exact ⟨ret_bool (by rw [HY.out (by trivial)]), (hB.alloc hsW _).trans (hb1.mono (by simp; omega))⟩
      | false =>
        go_wp2_with (go_at_call 118; refine (HH.out _).mono ?_; rintro e w1 ⟨rfl, hb1⟩)
        go_roundw
        case rel => exact ⟨k + 1, by omega, by go_num, by rw [HS.out, HNO.out]; rfl, (hB.alloc hsW _).trans (hb1.mono (by simp; omega))⟩
        case measure => simp [intOf]; omega
    · obtain rfl : k = 5 := by omega
      go_wp2_with fail
      go_ret
      exact ⟨ret_bool HNO.out.symm, hB⟩

theorem char_any (r : Int) (w : World) (ht : Tables w) :
    Calls Tryd.prog 130 #[.int .i64 r] w fun e w' => e = .returned (.bool (hasT charT r)) ∧ Below w.heap.size w w' := char_c r w ht.toTabC
theorem idx_startT (k : Nat) (h : k < 16) : ∀ w : World, (Instr.index 199 (.agg (flatT startT).toArray) (.int .i64 (k : Int))).run Tryd.prog w = .ok (.agg #[.int .i64 (startT[k]'h).1, .int .i64 (startT[k]'h).2]) w := by
  match k, h with
  | 0, _ => exact fun _ => by kernel_rfl
  | 1, _ => exact fun _ => by kernel_rfl
  | 2, _ => exact fun _ => by kernel_rfl
  | 3, _ => exact fun _ => by kernel_rfl
  | 4, _ => exact fun _ => by kernel_rfl
  | 5, _ => exact fun _ => by kernel_rfl
  | 6, _ => exact fun _ => by kernel_rfl
  | 7, _ => exact fun _ => by kernel_rfl
  | 8, _ => exact fun _ => by kernel_rfl
  | 9, _ => exact fun _ => by kernel_rfl
  | 10, _ => exact fun _ => by kernel_rfl
  | 11, _ => exact fun _ => by kernel_rfl
  | 12, _ => exact fun _ => by kernel_rfl
  | 13, _ => exact fun _ => by kernel_rfl
  | 14, _ => exact fun _ => by kernel_rfl
  | 15, _ => exact fun _ => by kernel_rfl
  | j + 16, h => exact absurd h (by omega)

set_option maxRecDepth 100000 in
set_option maxHeartbeats 1000000 in
theorem nameStart_n (r : Int) (w : World) (ht : TabN w) :
    Calls Tryd.prog 142 #[.int .i64 r] w fun e w' => e = .returned (.bool (hasT startT r)) ∧ Below w.heap.size w w' := by
  obtain ⟨tt, fr, hg⟩ := ht.start
  have HT := Lib.hid ht
  clear ht
  go_enter Tryd.func142, Tryd.ntmps142
  go_wp2_with (refine wpList_load_row rfl 199 _ rfl 2 rfl tt (flatT startT).toArray fr _ hg Tryd.underlying199 rfl (by kernel_rfl) ?_)
  clear hg
  go_loopw [6] (fun i wr => ∃ k : Nat, k ≤ 16 ∧ i = .int .i64 k ∧ hasT (startT.take k) r = false ∧ Below w.heap.size w wr) (fun i _ => 16 - (intOf i).toNat)
  case atStart => exact ⟨0, by omega, rfl, rfl, Below.refl _ _⟩
  case round =>
    obtain ⟨k, hk, rfl, hno, hB⟩ := hrel
    have HNO := Lib.hid hno
    have hsW := hB.size
    clear hno
    by_cases hlt : k < 16
    · have hix := idx_startT k hlt
      have HS := Lib.hid (hasT_succ startT k r hlt)
      have HY := Lib.hid (hasT_mem startT k r hlt)
      obtain ⟨a, ha⟩ : ∃ a, (startT[k]'hlt).1 = a := ⟨_, rfl⟩
      obtain ⟨b, hb⟩ : ∃ b, (startT[k]'hlt).2 = b := ⟨_, rfl⟩
      rw [ha, hb] at hix HS HY
      clear ha hb
      obtain ⟨q, hq⟩ : ∃ q, (decide (a ≤ r) && decide (r ≤ b)) = q := ⟨_, rfl⟩
      have HC := fun w => has_any a b r w
      rw [hq] at HC HS HY
      have HH := Lib.hid HC
      clear hq HC
      cases q with
      | true =>
        go_wp2_with (go_at_call 118; refine (HH.out _).mono ?_; rintro e w1 ⟨rfl, hb1⟩)
        go_ret
        exact ⟨ret_bool (by rw [HY.out (by trivial)]), (hB.alloc hsW _).trans (hb1.mono (by simp; omega))⟩
      | false =>
        go_wp2_with (go_at_call 118; refine (HH.out _).mono ?_; rintro e w1 ⟨rfl, hb1⟩)
        go_roundw
        case rel => exact ⟨k + 1, by omega, by go_num, by rw [HS.out, HNO.out]; rfl, (hB.alloc hsW _).trans (hb1.mono (by simp; omega))⟩
        case measure => simp [intOf]; omega
    · obtain rfl : k = 16 := by omega
      go_wp2_with fail
      go_ret
      exact ⟨ret_bool HNO.out.symm, hB⟩

theorem idx_followT (k : Nat) (h : k < 5) : ∀ w : World, (Instr.index 191 (.agg (flatT followT).toArray) (.int .i64 (k : Int))).run Tryd.prog w = .ok (.agg #[.int .i64 (followT[k]'h).1, .int .i64 (followT[k]'h).2]) w := by
  match k, h with
  | 0, _ => exact fun _ => by kernel_rfl
  | 1, _ => exact fun _ => by kernel_rfl
  | 2, _ => exact fun _ => by kernel_rfl
  | 3, _ => exact fun _ => by kernel_rfl
  | 4, _ => exact fun _ => by kernel_rfl

set_option maxRecDepth 100000 in
set_option maxHeartbeats 1000000 in
theorem nameChar_n (r : Int) (w : World) (ht : TabN w) :
    Calls Tryd.prog 143 #[.int .i64 r] w fun e w' => e = .returned (.bool (hasT followT r || hasT startT r)) ∧ Below w.heap.size w w' := by
  obtain ⟨tt, fr, hg⟩ := ht.follow
  have HT := Lib.hid ht
  clear ht
  go_enter Tryd.func143, Tryd.ntmps143
  go_wp2_with (refine wpList_load_row rfl 191 _ rfl 3 rfl tt (flatT followT).toArray fr _ hg Tryd.underlying191 rfl (by kernel_rfl) ?_)
  clear hg
  go_loopw [6] (fun i wr => ∃ k : Nat, k ≤ 5 ∧ i = .int .i64 k ∧ hasT (followT.take k) r = false ∧ Below w.heap.size w wr) (fun i _ => 5 - (intOf i).toNat)
  case atStart => exact ⟨0, by omega, rfl, rfl, Below.refl _ _⟩
  case round =>
    obtain ⟨k, hk, rfl, hno, hB⟩ := hrel
    have HNO := Lib.hid hno
    have hsW := hB.size
    clear hno
    by_cases hlt : k < 5
    · have hix := idx_followT k hlt
      have HS := Lib.hid (hasT_succ followT k r hlt)
      have HY := Lib.hid (hasT_mem followT k r hlt)
      obtain ⟨a, ha⟩ : ∃ a, (followT[k]'hlt).1 = a := ⟨_, rfl⟩
      obtain ⟨b, hb⟩ : ∃ b, (followT[k]'hlt).2 = b := ⟨_, rfl⟩
      rw [ha, hb] at hix HS HY
      clear ha hb
      obtain ⟨q, hq⟩ : ∃ q, (decide (a ≤ r) && decide (r ≤ b)) = q := ⟨_, rfl⟩
      have HC := fun w => has_any a b r w
      rw [hq] at HC HS HY
      have HH := Lib.hid HC
      clear hq HC
      cases q with
      | true =>
        go_wp2_with (go_at_call 118; refine (HH.out _).mono ?_; rintro e w1 ⟨rfl, hb1⟩)
        go_ret
        exact ⟨ret_bool (by rw [HY.out (by trivial)]; rfl), (hB.alloc hsW _).trans (hb1.mono (by simp; omega))⟩
      | false =>
        go_wp2_with (go_at_call 118; refine (HH.out _).mono ?_; rintro e w1 ⟨rfl, hb1⟩)
        go_roundw
        case rel => exact ⟨k + 1, by omega, by go_num, by rw [HS.out, HNO.out]; rfl, (hB.alloc hsW _).trans (hb1.mono (by simp; omega))⟩
        case measure => simp [intOf]; omega
    · obtain rfl : k = 5 := by omega
      have hno : hasT followT r = false := HNO.out
      have HN := Lib.hid hno
      clear hno
      have H2 := Lib.hid (nameStart_n r wr (HT.out.below hB))
      go_wp2_with (go_at_call 142; refine H2.out.mono ?_; rintro e w1 ⟨rfl, hb1⟩)
      go_ret
      exact ⟨ret_bool (by rw [HN.out]; rfl), hB.trans (hb1.mono hsW)⟩

theorem idx_pubidT (k : Nat) (h : k < 9) : ∀ w : World, (Instr.index 165 (.agg (flatT pubidT).toArray) (.int .i64 (k : Int))).run Tryd.prog w = .ok (.agg #[.int .i64 (pubidT[k]'h).1, .int .i64 (pubidT[k]'h).2]) w := by
  match k, h with
  | 0, _ => exact fun _ => by kernel_rfl
  | 1, _ => exact fun _ => by kernel_rfl
  | 2, _ => exact fun _ => by kernel_rfl
  | 3, _ => exact fun _ => by kernel_rfl
  | 4, _ => exact fun _ => by kernel_rfl
  | 5, _ => exact fun _ => by kernel_rfl
  | 6, _ => exact fun _ => by kernel_rfl
  | 7, _ => exact fun _ => by kernel_rfl
  | 8, _ => exact fun _ => by kernel_rfl

set_option maxRecDepth 100000 in
set_option maxHeartbeats 1000000 in
theorem pubid_any (r : Int) (w : World) (ht : Tables w) :
    Calls Tryd.prog 84 #[.int .i64 r] w fun e w' => e = .returned (.bool (hasT pubidT r)) ∧ Below w.heap.size w w' := by
  obtain ⟨tt, fr, hg⟩ := ht.pubid
  have HT := Lib.hid ht
  clear ht
  go_enter Tryd.func84, Tryd.ntmps84
  go_wp2_with (refine wpList_load_row rfl 165 _ rfl 0 rfl tt (flatT pubidT).toArray fr _ hg Tryd.underlying165 rfl (by kernel_rfl) ?_)
  clear hg
  go_loopw [6] (fun i wr => ∃ k : Nat, k ≤ 9 ∧ i = .int .i64 k ∧ hasT (pubidT.take k) r = false ∧ Below w.heap.size w wr) (fun i _ => 9 - (intOf i).toNat)
  case atStart => exact ⟨0, by omega, rfl, rfl, Below.refl _ _⟩
  case round =>
    obtain ⟨k, hk, rfl, hno, hB⟩ := hrel
    have HNO := Lib.hid hno
    have hsW := hB.size
    clear hno
    by_cases hlt : k < 9
    · have hix := idx_pubidT k hlt
      have HS := Lib.hid (hasT_succ pubidT k r hlt)
      have HY := Lib.hid (hasT_mem pubidT k r hlt)
      obtain ⟨a, ha⟩ : ∃ a, (pubidT[k]'hlt).1 = a := ⟨_, rfl⟩
      obtain ⟨b, hb⟩ : ∃ b, (pubidT[k]'hlt).2 = b := ⟨_, rfl⟩
      rw [ha, hb] at hix HS HY
      clear ha hb
      obtain ⟨q, hq⟩ : ∃ q, (decide (a ≤ r) && decide (r ≤ b)) = q := ⟨_, rfl⟩
      have HC := fun w => has_any a b r w
      rw [hq] at HC HS HY
      have HH := Lib.hid HC
      clear hq HC
      cases q with
      | true =>
        go_wp2_with (go_at_call 118; refine (HH.out _).mono ?_; rintro e w1 ⟨rfl, hb1⟩)
        go_ret
        exact ⟨ret_bool (by rw [HY.out (by trivial)]), (hB.alloc hsW _).trans (hb1.mono (by simp; omega))⟩
      | false =>
        go_wp2_with (go_at_call 118; refine (HH.out _).mono ?_; rintro e w1 ⟨rfl, hb1⟩)
        go_roundw
        case rel => exact ⟨k + 1, by omega, by go_num, by rw [HS.out, HNO.out]; rfl, (hB.alloc hsW _).trans (hb1.mono (by simp; omega))⟩
        case measure => simp [intOf]; omega
    · obtain rfl : k = 9 := by omega
      go_wp2_with fail
      go_ret
      exact ⟨ret_bool HNO.out.symm, hB⟩
theorem nameStart_any (r : Int) (w : World) (ht : Tables w) :
    Calls Tryd.prog 142 #[.int .i64 r] w fun e w' => e = .returned (.bool (hasT startT r)) ∧ Below w.heap.size w w' := nameStart_n r w ht.toN
theorem nameChar_any (r : Int) (w : World) (ht : Tables w) :
    Calls Tryd.prog 143 #[.int .i64 r] w fun e w' => e = .returned (.bool (hasT followT r || hasT startT r)) ∧ Below w.heap.size w w' := nameChar_n r w ht.toN
end Go.Proofs.YtdmfladcldkmeaaDoor
namespace Go.Proofs.YtdmfladcldkmeaaDoor
open Go.ChangeShapes Go.WideShapes Go.ChangeAt Go.RowKit
set_option linter.unusedVariables false

/-- The place behind the row: the first character by p, the others by q. -/
def endN (l : List UInt8) (q : Int → Bool) : Nat → (Int → Bool) → Nat → Nat
  | 0, _, k => k
  | f + 1, p, k => if k < l.length ∧ (chrAt l k).2 ≠ 0 ∧ p (chrAt l k).1 = true then endN l q f q (k + (chrAt l k).2) else k
theorem endN_out {l : List UInt8} {p q : Int → Bool} (f k : Nat) (h : l.length ≤ k ∨ (chrAt l k).2 = 0 ∨ p (chrAt l k).1 = false) : endN l q f p k = k := by
  cases f with
  | zero => rfl
  | succ f =>
    rw [endN, if_neg]
    rintro ⟨h1, h2, h3⟩
    rcases h with h | h | h
    · omega
    · exact h2 h
    · rw [h] at h3; cases h3
theorem endN_on {l : List UInt8} {p q : Int → Bool} (f k : Nat) {r : Int} {m : Nat} (h : k < l.length) (hc : chrAt l k = (r, m)) (h0 : m ≠ 0) (hp : p r = true) : endN l q (f + 1) p k = endN l q f q (k + m) := by
  rw [endN, hc, if_pos ⟨h, h0, hp⟩]
theorem endN_le (l : List UInt8) (q : Int → Bool) (f : Nat) : ∀ (p : Int → Bool) (k : Nat), k ≤ l.length → k ≤ endN l q f p k ∧ endN l q f p k ≤ l.length := by
  induction f with
  | zero => exact fun p k h => ⟨Nat.le_refl _, h⟩
  | succ f ih =>
    intro p k h
    rw [endN]
    split
    · next h1 =>
      have := (chrAt_room l k h1.1).1
      have := ih q _ this
      exact ⟨by omega, this.2⟩
    · exact ⟨Nat.le_refl _, h⟩

/-- A function value that says by f, in every world that keeps what lay below p. -/
def Tells (F : Nat) (caps : Array Value) (f : Int → Bool) (p : Nat) (W : World) : Prop :=
  ∀ (r : Int) (w' : World), Below p W w' → Calls Tryd.prog F (#[.int .i64 r] ++ caps) w' fun e w'' => e = .returned (.bool (f r)) ∧ Below w'.heap.size w' w''
/-- What the walk asks of a callable number. -/
def Enters (F : Nat) : Prop := ∀ args w, (callFunc F args).run Tryd.prog w = .ok (.enter F args) w

theorem below_drw {B : Nat} {a w : World} (h : Below B a w) (n : Nat) : Below B a (w.drewN n) := ⟨h.os, h.tape, h.output, h.size, h.block⟩

set_option maxRecDepth 100000 in
set_option maxHeartbeats 2000000 in
theorem end_any (l : List UInt8) (A : Option Addr) (n c k : Nat) (w : World) (F G : Nat) (cf cg : Array Value) (p q : Int → Bool)
    (hn : l.length = n) (hnc : n ≤ c) (hm : c ≤ 9223372036854775807) (hk : k ≤ n) (hs : Sees w A (vB l))
    (hF : Enters F) (hG : Enters G) (tF : Tells F cf p w.heap.size w) (tG : Tells G cg q w.heap.size w) :
    Calls Tryd.prog 144 #[.agg #[.func (.func F) #[] cf, .func (.func G) #[] cg], .slice A n c, .int .i64 k] w fun e w' =>
      e = .returned (.int .i64 (endN l q n p k : Nat)) ∧ Below w.heap.size w w' := by
  obtain ⟨z, hto⟩ : ∃ z, endN l q n p k = z := ⟨_, rfl⟩
  have HT := Lib.hid hto
  have HS := Lib.hid hs
  have HN := Lib.hid hn
  have TF := Lib.hid tF
  have TG := Lib.hid tG
  have hF' : ∀ args w, (callFunc F args).run Tryd.prog w = .ok (.enter F args) w := hF
  have hG' : ∀ args w, (callFunc G args).run Tryd.prog w = .ok (.enter G args) w := hG
  rw [hto]
  clear hto hs hn tF tG
  go_enter Tryd.func144, Tryd.ntmps144
  go_wp2_with fail
  go_loopw [2, 7] (fun i v wr => ∃ k' f H : Nat, ∃ ch : Array Value, ∃ h : Int → Bool, k' ≤ n ∧ n ≤ k' + f ∧ i = .int .i64 k' ∧ v = .func (.func H) #[] ch ∧ Enters H ∧ Hid (Tells H ch h w.heap.size w) ∧ Hid (endN l q f h k' = z) ∧ wr.cell? ⟨w.heap.size, 1, none⟩ = some (.func (.func G) #[] cg) ∧ Below w.heap.size w wr ∧ w.heap.size < wr.heap.size) (fun i _ _ => n - (intOf i).toNat)
  case atStart => exact ⟨k, n, F, cf, p, hk, by omega, rfl, rfl, hF, TF, HT, by simp [World.cell?_alloc_new], (Below.refl _ _).alloc (Nat.le_refl _) _, by simp⟩
  case round =>
    obtain ⟨k', f, H, ch, h, hkn, hnf, rfl, rfl, hH, TH, HZ, hcell, hB, hsz⟩ := hrel
    have hH' : ∀ args w, (callFunc H args).run Tryd.prog w = .ok (.enter H args) w := hH
    have hs' := HS.out.below hB
    by_cases hlt : k' < n
    · obtain ⟨r, m, hrm⟩ : ∃ r m, chrAt l k' = (r, m) := ⟨_, _, rfl⟩
      have hroom := chrAt_room l k' (by rw [HN.out]; exact hlt)
      rw [hrm, HN.out] at hroom
      simp only [] at hroom
      by_cases h0 : m = 0
      · have H1 := Lib.hid (decode_err l A n c k' wr HN.out hnc hm hlt hs' (by rw [hrm]; exact h0))
        have HE := Lib.hid (endN_out (l := l) (p := h) (q := q) f k' (.inr (.inl (by rw [hrm]; exact h0))))
        clear hrm hs' hroom
        go_wp2_with fail
        refine H1.out.mono ?_
        rintro e w1 ⟨rfl, rfl⟩
        go_wp2_with fail
        go_ret
        exact ⟨by have hz := HZ.out; rw [HE.out] at hz; subst hz; rfl, hB⟩
      · have H1 := Lib.hid (decode_ok l A n c k' wr HN.out hnc hm hlt hs' r m hrm h0)
        have C := TH.out r wr hB
        cases hr : h r with
        | false =>
          rw [hr] at C
          have HC := Lib.hid C
          have HE := Lib.hid (endN_out (l := l) (p := h) (q := q) f k' (.inr (.inr (by rw [hrm]; exact hr))))
          clear hrm hs' C hr hroom
          go_wp2_with fail
          refine H1.out.mono ?_
          rintro e w1 ⟨rfl, rfl⟩
          go_wp2_with fail
          refine HC.out.mono ?_
          rintro e w1 ⟨rfl, hb⟩
          go_wp2_with fail
          go_ret
          exact ⟨by have hz := HZ.out; rw [HE.out] at hz; subst hz; rfl, hB.trans (hb.mono hB.size)⟩
        | true =>
          rw [hr] at C
          have HC := Lib.hid C
          obtain ⟨g, rfl⟩ : ∃ g, f = g + 1 := ⟨f - 1, by omega⟩
          have HE := Lib.hid (endN_on (l := l) (p := h) (q := q) g k' (by rw [HN.out]; exact hlt) hrm h0 hr)
          clear hrm hs' C hr
          go_wp2_with fail
          refine H1.out.mono ?_
          rintro e w1 ⟨rfl, rfl⟩
          go_wp2_with fail
          refine HC.out.mono ?_
          rintro e w1 ⟨rfl, hb⟩
          have hcell' := cell_later hb hcell
          have hbs := hb.size
          go_wp2_with fail
          go_quiet (fail)
          go_wp2_with fail
          go_roundw
          case rel => exact ⟨k' + m, g, G, cg, q, by omega, by omega, by go_num, rfl, hG, TG, by unfold Hid; rw [← HE.out]; exact HZ.out, hcell', below_drw (hB.trans (hb.mono hB.size)) _, Nat.lt_of_lt_of_le hsz hbs⟩
          case measure => simp [intOf]; omega
    · obtain rfl : k' = n := by omega
      have H1 := Lib.hid (decode_out l A k' c k' wr (.inr (Int.le_refl _)))
      have HE := Lib.hid (endN_out (l := l) (p := h) (q := q) f k' (.inl (by rw [HN.out]; exact Nat.le_refl _)))
      go_wp2_with fail
      refine H1.out.mono ?_
      rintro e w1 ⟨rfl, rfl⟩
      go_wp2_with fail
      go_ret
      exact ⟨by have hz := HZ.out; rw [HE.out] at hz; subst hz; rfl, hB⟩
end Go.Proofs.YtdmfladcldkmeaaDoor
namespace Go.Proofs.YtdmfladcldkmeaaDoor
open Go.ChangeShapes Go.WideShapes Go.ChangeAt Go.RowKit Go.Shelf
set_option linter.unusedVariables false
attribute [local go_sem] Oper.semAt_some

theorem items_len (l : List UInt8) (f k : Nat) : (items l f k).length ≤ f := by
  induction f generalizing k with
  | zero => simp [items]
  | succ f ih =>
    rw [items]
    split
    · split
      · simp
      · simp only [List.length_cons]; have := ih (k + (chrAt l k).2); omega
    · simp
theorem stepsS_len (l : List UInt8) : (stepsS l).length ≤ l.length := items_len l _ _
theorem items_err (l : List UInt8) (f k : Nat) : ∀ x ∈ items l f k, x.2.2 ≠ 0 → x.1 = 0 ∧ x.2.2 = 5 := by
  induction f generalizing k with
  | zero => simp [items]
  | succ f ih =>
    rw [items]
    split
    · split
      · simp
      · intro x hx he
        rcases List.mem_cons.1 hx with rfl | hx
        · exact absurd rfl he
        · exact ih _ x hx he
    · simp
/-- The first place at which there is no character. -/
def badS (l : List UInt8) : Option Nat := ((stepsS l).find? fun x => x.2.2 != 0).map fun x => x.2.1
def runesS (l : List UInt8) : List Int := (stepsS l).map fun x => x.1
theorem badS_none {l : List UInt8} {ys : List Item} (h : ys = stepsS l) (ha : ∀ y ∈ ys, y.2.2 = 0) : badS l = none := by
  unfold badS
  rw [← h, List.find?_eq_none.2 (fun x hx => by simp [ha x hx])]; rfl
theorem badS_some {l : List UInt8} {pre : List Item} {x : Item} (hp : pre ++ [x] <+: stepsS l) (ha : ∀ y ∈ pre, y.2.2 = 0) (hx : x.2.2 ≠ 0) : badS l = some x.2.1 ∧ x.2.2 = 5 := by
  obtain ⟨t, ht⟩ := hp
  refine ⟨?_, (items_err l _ _ x (by show x ∈ stepsS l; rw [← ht]; simp) hx).2⟩
  unfold badS
  rw [← ht, List.append_assoc, List.find?_append, List.find?_eq_none.2 (fun y hy => by simp [ha y hy])]
  simp [hx]

/-- What Len tells. -/
def lenV (l : List UInt8) : Value := if badS l = none then .tuple #[.int .i64 (runesS l).length, .int .i64 0] else .tuple #[.int .i64 0, .int .i64 5]

/-- A cell of the call's own that may be written. -/
def Cel (W : World) (b : Nat) (v : Value) : Prop := W.cell? ⟨b, 0, none⟩ = some v ∧ W.frozen? ⟨b, 0, none⟩ = false
theorem Cel.kept {A B : World} {b : Nat} {v : Value} {row : Option Nat} (h : Cel A b v) (hg : A.grownBy B row) (hr : ∀ r, row = some r → ∃ o : Obj, A.heap[r]? = some o ∧ o.isCells = false) : Cel B b v :=
  ⟨cell_kept h.1 hg hr, (frozen_kept h.1 hg hr).trans h.2⟩
theorem Cel.set {W : World} {b : Nat} {v : Value} (h : Cel W b v) (u : Value) : Cel (W.setCell ⟨b, 0, none⟩ u) b u :=
  ⟨World.cell?_setCell_same' _ _ _ (by rw [h.1]; rfl), by rw [World.frozen?_setCell]; exact h.2⟩
theorem Cel.other {W : World} {b c : Nat} {v : Value} (h : Cel W b v) (hne : b ≠ c) (u : Value) : Cel (W.setCell ⟨c, 0, none⟩ u) b v :=
  ⟨(World.cell?_setCell_other W _ _ u (fun e => by injection e with e1; exact hne e1.symm)).trans h.1, by rw [World.frozen?_setCell]; exact h.2⟩
theorem Cel.new (w : World) (v : Value) (t : TypeId) : Cel (w.alloc (.cells #[v] t)) w.heap.size v := ⟨by simp [World.cell?_alloc_new], by unfold World.frozen?; simp only [World.alloc_heap_new w (.cells #[v] t)]; simp⟩
theorem Cel.alloc {W : World} {b : Nat} {v : Value} (h : Cel W b v) (o : Obj) : Cel (W.alloc o) b v :=
  have hb : Below W.heap.size W (W.alloc o) := (Below.refl _ W).alloc (Nat.le_refl _) o
  have hl := World.block_lt_of_cell? W _ h.1
  ⟨(hb.cell hl).trans h.1, (hb.frozen hl).trans h.2⟩

end Go.Proofs.YtdmfladcldkmeaaDoor
namespace Go.Proofs.YtdmfladcldkmeaaDoor
open Go.ChangeShapes Go.WideShapes Go.ChangeAt Go.RowKit Go.Shelf
set_option linter.unusedVariables false
attribute [local go_sem] Oper.semAt_some

/-- What Check tells. -/
def checkV (l : List UInt8) : Value := if badS l = none then .tuple #[.int .i64 l.length, .int .i64 0] else .tuple #[.int .i64 ((badS l).getD 0 : Nat), .int .i64 5]
/-- The cells of a step in its own block. -/
def Step (W : World) (b : Nat) (x : Item) : Prop := W.cell? ⟨b, 0, none⟩ = some (.int .i64 x.1) ∧ W.cell? ⟨b, 1, none⟩ = some (.int .i64 (x.2.1 : Int))
theorem Step.kept {A B : World} {b : Nat} {x : Item} {row : Option Nat} (h : Step A b x) (hg : A.grownBy B row) (hr : ∀ r, row = some r → ∃ o : Obj, A.heap[r]? = some o ∧ o.isCells = false) : Step B b x :=
  ⟨cell_kept h.1 hg hr, cell_kept h.2 hg hr⟩
theorem Step.new (w : World) (x : Item) (t : TypeId) : Step (w.alloc (.cells #[.int .i64 x.1, .int .i64 (x.2.1 : Int)] t)) w.heap.size x := ⟨by simp [World.cell?_alloc_new], by simp [World.cell?_alloc_new]⟩

end Go.Proofs.YtdmfladcldkmeaaDoor
namespace Go.Proofs.YtdmfladcldkmeaaDoor
open Go.ChangeShapes Go.WideShapes Go.ChangeAt Go.RowKit Go.Shelf
set_option linter.unusedVariables false
attribute [local go_sem] Oper.semAt_some

theorem int_info : (Tryd.prog.info? 3).map (fun i => (i.zero, i.size, i.bytes)) = some (some (.int .i64 0), 1, 8) := by kernel_rfl
theorem ownsRow_form {W : World} {base : Nat} {e : TypeId} {size : Nat} {v : Value} {k : Nat} {xs : List Value} (h : W.ownsRow base e size v k xs) : ∃ A c, v = .slice A k c := by
  rcases h.2 with ⟨rfl, rfl⟩ | ⟨g, cap, _, rfl, _⟩
  · exact ⟨_, _, rfl⟩
  · exact ⟨_, _, rfl⟩
theorem Boxed.off {W : World} {b c : Nat} {t : TypeId} {v : Value} (h : Boxed W b t v) (hne : b ≠ c) (u : Value) : Boxed (W.setCell ⟨c, 0, none⟩ u) b t v :=
  h.kept (grownBy_setCell' W c u) (by simpa using hne)
/-- What Runes tells. -/
def RunesPost (l : List UInt8) (w : World) (e : Ending) (W' : World) : Prop :=
  (badS l = none → ∃ v, e = .returned (.tuple #[v, .int .i64 0]) ∧ W'.ownsRow w.heap.size 3 1 v (runesS l).length ((runesS l).map (Value.int .i64))) ∧
  (badS l ≠ none → e = .returned (.tuple #[.slice none 0 0, .int .i64 5])) ∧ Below w.heap.size w W'
def nums (pre : List Item) : List Value := pre.map fun x => .int .i64 x.1
theorem nums_snoc (pre : List Item) (x : Item) : nums (pre ++ [x]) = nums pre ++ [.int .i64 x.1] := by unfold nums; simp

set_option maxRecDepth 100000 in
set_option maxHeartbeats 4000000 in
theorem runes_in (A : Option Addr) (len cap : Nat) (l : List UInt8) (hlen : l.length = len) (hnc : len ≤ cap) (hcap : cap ≤ 9223372036854775807) (hsmall : len ≤ 17592186044416) (w : World) (hs : Sees w A (vB l)) :
    CallsIn Fence.wide 9 Tryd.prog 92 #[.slice A len cap] w fun e W' => RunesPost l w e W' := by
  have hN := stepsS_len l
  rw [hlen] at hN
  have HL := Lib.hid hlen
  clear hlen
  obtain ⟨i0, hi0, hz0, hz1, hz2⟩ := info_parts int_info
  refine callsIn_of_wp_marks Tryd.func92 rfl trivial ?_ rfl
  simp only [Tryd.ntmps92, List.size_toArray, List.length_cons, List.length_nil, Nat.reduceAdd, Nat.reduceSub, Array.replicate_succ, Array.replicate_zero, List.push_toArray, List.append_toArray, List.nil_append, List.cons_append]
  gi_wp2_with (refine ⟨trivial, ?_⟩; gi_at_call 129; refine (steps_in _ _ _ _ _).mono ?_; rintro e w' ⟨rfl, rfl⟩)
  have b0 := Boxed.new w 134 (.slice none 0 0)
  have b1 := Boxed.new (w.alloc (.cells #[.slice none 0 0] 134)) 27 (.int .i64 0)
  have b2 := Boxed.new ((w.alloc (.cells #[.slice none 0 0] 134)).alloc (.cells #[.int .i64 0] 27)) 134 (.slice none 0 0)
  have b3 := Boxed.new (((w.alloc (.cells #[.slice none 0 0] 134)).alloc (.cells #[.int .i64 0] 27)).alloc (.cells #[.slice none 0 0] 134)) 36 (.slice A len cap)
  have hB0 : Below w.heap.size w ((((w.alloc (.cells #[.slice none 0 0] 134)).alloc (.cells #[.int .i64 0] 27)).alloc (.cells #[.slice none 0 0] 134)).alloc (.cells #[.slice A len cap] 36)) :=
    (((((Below.refl _ w).alloc (Nat.le_refl _) _).alloc (by simp) _).alloc (by simp; omega) _).alloc (by simp; omega) _)
  have b0 := ((b0.alloc (.cells #[.int .i64 0] 27)).alloc (.cells #[.slice none 0 0] 134)).alloc (.cells #[.slice A len cap] 36)
  have b1 := (b1.alloc (.cells #[.slice none 0 0] 134)).alloc (.cells #[.slice A len cap] 36)
  have b2 := b2.alloc (.cells #[.slice A len cap] 36)
  simp only [World.size_alloc] at b1 b2 b3
  have hsz : ((((w.alloc (.cells #[.slice none 0 0] 134)).alloc (.cells #[.int .i64 0] 27)).alloc (.cells #[.slice none 0 0] 134)).alloc (.cells #[.slice A len cap] 36)).heap.size = w.heap.size + 4 := by simp
  obtain ⟨W0, hW0⟩ : ∃ W0, (((w.alloc (.cells #[.slice none 0 0] 134)).alloc (.cells #[.int .i64 0] 27)).alloc (.cells #[.slice none 0 0] 134)).alloc (.cells #[.slice A len cap] 36) = W0 := ⟨_, rfl⟩
  rw [hW0] at b0 b1 b2 b3 hB0 hsz ⊢
  clear hW0
  refine wpIn_rangeFunc_ownH rfl (by omega) (gf := 155) (lb := #[.pointer (some ⟨w.heap.size + 1 + 1 + 1, 0, none⟩)]) rfl trivial (enters_of Tryd.func155 (by kernel_rfl) rfl)
    (steps_stops (9 - 1) (by omega) (w.heap.size + 1 + 1 + 1) len cap A l HL.out hnc hcap w W0 hs hB0 (by omega) b3.cell) keepsBox_t (keepsBox_b (by omega)) (Below.refl _ _) (fun _ => rfl)
    (fun pre W => ((((∀ y ∈ pre, y.2.2 = 0) ∧ Boxed W w.heap.size 134 (.slice none 0 0) ∧ Boxed W (w.heap.size + 1) 27 (.int .i64 0) ∧ Boxed W (w.heap.size + 1 + 1 + 1) 36 (.slice A len cap)) ∧
      ∃ v, Boxed W (w.heap.size + 1 + 1) 134 v ∧ W.ownsRow w.heap.size 3 1 v pre.length (nums pre) ∧ True)) ∧ Below w.heap.size w W)
    (fun c pre W => (c = .ret ∧ (∃ pre' x, pre = pre' ++ [x] ∧ (∀ y ∈ pre', y.2.2 = 0) ∧ x.2.2 ≠ 0 ∧ Boxed W w.heap.size 134 (.slice none 0 0) ∧ Boxed W (w.heap.size + 1) 27 (.int .i64 x.2.2))) ∧ Below w.heap.size w W)
    (OwnFrom.and (Own.from (fun s X Y row hs hg hr => ⟨⟨hs.1.1, boxed_own _ _ (fun _ : Unit => _) () X Y row hs.1.2.1 hg hr, boxed_own _ _ (fun _ : Unit => _) () X Y row hs.1.2.2.1 hg hr, boxed_own _ _ (fun _ : Unit => _) () X Y row hs.1.2.2.2 hg hr⟩,
      holdsRow_own w.heap.size _ _ _ 1 (fun p : List Item => p.length) nums (fun _ _ => True) s X Y row hs.2 hg hr⟩) _) (ownFrom_below (Nat.le_refl _) (by omega)))
    (fun c => OwnFrom.and (Own.from (fun s X Y row hs hg hr => ⟨hs.1, by obtain ⟨p, x, e1, e2, e3, e4, e5⟩ := hs.2; exact ⟨p, x, e1, e2, e3, boxed_own _ _ (fun _ : Unit => _) () X Y row e4 hg hr, boxed_own _ _ (fun _ : Unit => _) () X Y row e5 hg hr⟩⟩) _) (ownFrom_below (Nat.le_refl _) (by omega)))
    ⟨⟨⟨by simp, b0, b1, b3⟩, _, b2, World.ownsRow_nil _ _ _ _, trivial⟩, hB0⟩
    (fun x a' W => ∃ Bx, w.heap.size + 1 < Bx ∧ Step W Bx x ∧ a' = { tmps := #[.slice A len cap, undef, .pointer (some ⟨w.heap.size, 0, none⟩), .pointer (some ⟨w.heap.size + 1, 0, none⟩), .pointer (some ⟨w.heap.size + 1 + 1, 0, none⟩), .pointer (some ⟨Bx, 0, none⟩), .int .i64 x.2.2, .slice A len cap,
      .func (.func 155) #[] #[.pointer (some ⟨w.heap.size + 1 + 1 + 1, 0, none⟩)], .agg #[.int .i64 x.1, .int .i64 (x.2.1 : Int)], .int .i64 x.2.2, undef, undef, undef, undef, undef, undef, undef, undef, undef], defers := [] })
    (fun x a' _ X Y row hs hg hr => by obtain ⟨Bx, h1, h2, h3⟩ := hs; exact ⟨Bx, h1, h2.kept hg (fun r e => (hr r e).2), h3⟩)
    ?assign ?body ?done ?stop
  case assign =>
    rintro lp pre x W K ⟨⟨⟨hall, c0, c1, c3⟩, v, c2, hrow, _⟩, hB⟩ hK
    have hsW := hB.size
    have hl := c1.lt
    unfold itemV
    have HA := Lib.hid hall
    clear hall
    gi_wp2
    exact hK _ _ ((KeepsOthers.alloc _ _).from _) ⟨(Below.refl _ W).alloc hsW _, fun v hv => cell_later ((Below.refl _ W).alloc (Nat.le_refl _) _) hv⟩
      ⟨⟨⟨HA.out, c0.alloc _, c1.alloc _, c3.alloc _⟩, v, c2.alloc _, hrow.alloc _, trivial⟩, hB.alloc hsW _⟩ ⟨W.heap.size, hl, Step.new W x _, rfl⟩
  case body =>
    rintro lp pre ⟨r, k, e⟩ a' W hlp hloop ⟨⟨⟨hall, c0, c1, c3⟩, v, c2, hrow, _⟩, hB⟩ ⟨Bx, hBx, ⟨s0, s1⟩, rfl⟩ hpl
    simp only [] at *
    have d0 := c0.cell
    have f0 := c0.frozen
    have d1 := c1.cell
    have f1 := c1.frozen
    have d2 := c2.cell
    have f2 := c2.frozen
    have HA := Lib.hid hall
    have HL2 := Lib.hid hloop
    clear hall hloop
    by_cases he : e = 0
    · subst he
      have hsW := hB.size
      gi_wp2_with (gi_at_builtin; refine wpListIn_append_own _ rfl _ _ 134 rfl w.heap.size 3 i0 (.int .i64 0) 1 8 Tryd.underlying134 hi0 hz0 hz1 hz2 rfl (by decide) v pre.length (nums pre) rfl (hrow.alloc _) ⟨W.heap.size, 0, none⟩ 1 1 [.int .i64 r] rfl rfl (cells_new W [.int .i64 r] _) (ints_one .i64 [r]) (by unfold maxLen; omega) (by omega) (by simp; omega) ?_; intro v' w1 hown' hgrow _; obtain ⟨g', cap', rfl⟩ := ownsRow_succ hown'; obtain ⟨hv1, hv2, hr2, hk2, hb2⟩ := c2.appended (by decide) hrow hsW (by omega) hown' hgrow; have hc1 := hv1.cell; have hf1 := hv1.frozen)
      have kp : ∀ {B : Nat} {t : TypeId} {u : Value}, Boxed W B t u → t ≠ 3 → B ≠ w.heap.size + 1 + 1 → Boxed (w1.setCell ⟨w.heap.size + 1 + 1, 0, none⟩ (.slice (some ⟨g', 0, none⟩) (pre.length + 1) cap')) B t u := fun h ht hne =>
        Boxed.off ((h.alloc _).kept hgrow (h.not_row ht hrow)) hne _
      refine ⟨hk2.from _, ⟨hb2, fun u hu => ?_⟩, ⟨⟨?_, kp c0 (by decide) (by omega), kp c1 (by decide) (by omega), kp c3 (by decide) (by omega)⟩, _, hv2, ?_, trivial⟩, hB.trans hb2⟩
      · rw [c3.cell] at hu
        rw [(kp c3 (by decide) (by omega)).cell]; exact hu
      · intro y hy
        rcases List.mem_append.1 hy with h | h
        · exact HA.out y h
        · simp at h; subst h; rfl
      · rw [nums_snoc, List.length_append]; exact hr2
    · have hb : (e != 0) = true := by simpa using he
      have HE := Lib.hid he
      clear he
      gi_wp2
      exact ⟨((KeepsOthers.setCell _ _ _).trans (KeepsOthers.setCell _ _ _)).from _, ⟨rfl, ⟨pre, (r, k, e), rfl, HA.out, HE.out, Boxed.off (Boxed.set _ c0) (by omega) _, Boxed.set _ (Boxed.off c1 (by omega) _)⟩⟩,
        (hB.setCell (p := ⟨w.heap.size, 0, none⟩) (Nat.le_refl _) _).setCell (p := ⟨w.heap.size + 1, 0, none⟩) (by simp) _⟩
  case done =>
    rintro D ys W hD hys ⟨⟨⟨hall, c0, c1, c3⟩, v, c2, hrow, _⟩, hB⟩ hK
    have HB := Lib.hid (badS_none hys hall)
    have HY := Lib.hid hys
    obtain ⟨A', cap', rfl⟩ := ownsRow_form hrow
    have d0 := c0.cell
    have f0 := c0.frozen
    have d1 := c1.cell
    have f1 := c1.frozen
    have d2 := c2.cell
    clear hys hall
    gi_wp2
    have hK' := ((KeepsOthers.setCell W ⟨w.heap.size, 0, none⟩ (.slice A' ys.length cap')).trans (KeepsOthers.setCell _ ⟨w.heap.size + 1, 0, none⟩ (.int .i64 0))).same D _ hK rfl
    refine ⟨by simp, .inl ⟨_, _, rfl, run_takeDeferred hK', ?_⟩⟩
    have q0 := boxed_own _ _ (fun _ : Unit => _) () _ _ _ (Boxed.off (Boxed.set (.slice A' ys.length cap') c0) (c := w.heap.size + 1) (by omega) (.int .i64 0)) (grownBy_putObj' _ D (.deferred none)) (fun r e => by cases e; exact ⟨_, hK', rfl⟩)
    have q1 := boxed_own _ _ (fun _ : Unit => _) () _ _ _ (Boxed.set (.int .i64 0) (Boxed.off c1 (c := w.heap.size) (by omega) (.slice A' ys.length cap'))) (grownBy_putObj' _ D (.deferred none)) (fun r e => by cases e; exact ⟨_, hK', rfl⟩)
    refine ⟨.tuple #[.slice A' ys.length cap', .int .i64 0], ?_, ⟨fun _ => ⟨_, rfl, ?_⟩, fun h => absurd HB.out h, ((hB.setCell (p := ⟨w.heap.size, 0, none⟩) (by simp) _).setCell (p := ⟨w.heap.size + 1, 0, none⟩) (by simp) _).trans (belowK_b (w := w) (Nat.le_refl _) _ D _ _ (by omega) hK' rfl rfl)⟩⟩
    · simp [results, Tryd.f92, go_sem, q0.cell, q1.cell]
    · have e : (runesS l).map (Value.int .i64) = nums ys := by unfold runesS nums; rw [HY.out, List.map_map]; rfl
      have e2 : (runesS l).length = ys.length := by unfold runesS; rw [List.length_map, HY.out]
      rw [e, e2]
      exact ownsRow_putObj ((hrow.kept (grownBy_setCell' _ _ _) (.inr (c0.not_row (by decide) hrow).symm)).kept (grownBy_setCell' _ _ _) (.inr (c1.not_row (by decide) hrow).symm)) _ hK' rfl
  case stop =>
    rintro D c pre W hD hpre ⟨⟨rfl, ⟨pre', x, rfl, ha, hx, c0, c1⟩⟩, hB⟩ hK
    obtain ⟨hb1, hb2⟩ := badS_some hpre ha hx
    gi_wp2
    refine ⟨by simp, .inl ⟨_, _, rfl, run_takeDeferred hK, ?_⟩⟩
    have q0 := boxed_own _ _ (fun _ : Unit => _) () _ _ _ c0 (grownBy_putObj' _ D (.deferred none)) (fun r e => by cases e; exact ⟨_, hK, rfl⟩)
    have q1 := boxed_own _ _ (fun _ : Unit => _) () _ _ _ c1 (grownBy_putObj' _ D (.deferred none)) (fun r e => by cases e; exact ⟨_, hK, rfl⟩)
    refine ⟨.tuple #[.slice none 0 0, .int .i64 x.2.2], ?_, ⟨fun h => absurd h (by rw [hb1]; simp), fun _ => by rw [hb2], hB.trans (belowK_b (w := w) (Nat.le_refl _) W D _ _ (by omega) hK rfl rfl)⟩⟩
    simp [results, Tryd.f92, go_sem, q0.cell, q1.cell]
theorem runes_any (A : Option Addr) (len cap : Nat) (l : List UInt8) (hlen : l.length = len) (hnc : len ≤ cap) (hcap : cap ≤ 9223372036854775807) (hsmall : len ≤ 17592186044416) (w : World) (hs : Sees w A (vB l)) :
    Calls Tryd.prog 92 #[.slice A len cap] w fun e W' => RunesPost l w e W' :=
  callsIn_wide.1 (runes_in A len cap l hlen hnc hcap hsmall w hs)
end Go.Proofs.YtdmfladcldkmeaaDoor
