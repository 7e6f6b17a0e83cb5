/- Names: where a row of characters ends, over any two functions that say yes or no. -/
import Derived.Test.YtdmfladcldkmeaaDoorUtfG
import Derived.Test.YtdmfladcldkmeaaDoorCha
import Derived.BigQuiet
namespace Go.Proofs.YtdmfladcldkmeaaDoor
open Go.ChangeShapes Go.WideShapes Go.ChangeAt Go.RowKit
set_option linter.unusedVariables false

/-- The place behind the row: the first character by p, the others by q. -/
def endN (l : List UInt8) (q : Int → Bool) : Nat → (Int → Bool) → Nat → Nat
  | 0, _, k => k
  | f + 1, p, k => if k < l.length ∧ (chrAt l k).2 ≠ 0 ∧ p (chrAt l k).1 = true then endN l q f q (k + (chrAt l k).2) else k
theorem endN_out {l : List UInt8} {p q : Int → Bool} (f k : Nat) (h : l.length ≤ k ∨ (chrAt l k).2 = 0 ∨ p (chrAt l k).1 = false) : endN l q f p k = k := by
  cases f with
  | zero => rfl
  | succ f =>
    rw [endN, if_neg]
    rintro ⟨h1, h2, h3⟩
    rcases h with h | h | h
    · omega
    · exact h2 h
    · rw [h] at h3; cases h3
theorem endN_on {l : List UInt8} {p q : Int → Bool} (f k : Nat) {r : Int} {m : Nat} (h : k < l.length) (hc : chrAt l k = (r, m)) (h0 : m ≠ 0) (hp : p r = true) : endN l q (f + 1) p k = endN l q f q (k + m) := by
  rw [endN, hc, if_pos ⟨h, h0, hp⟩]
theorem endN_le (l : List UInt8) (q : Int → Bool) (f : Nat) : ∀ (p : Int → Bool) (k : Nat), k ≤ l.length → k ≤ endN l q f p k ∧ endN l q f p k ≤ l.length := by
  induction f with
  | zero => exact fun p k h => ⟨Nat.le_refl _, h⟩
  | succ f ih =>
    intro p k h
    rw [endN]
    split
    · next h1 =>
      have := (chrAt_room l k h1.1).1
      have := ih q _ this
      exact ⟨by omega, this.2⟩
    · exact ⟨Nat.le_refl _, h⟩

/-- A function value that says by f, in every world that keeps what lay below p. -/
def Tells (F : Nat) (caps : Array Value) (f : Int → Bool) (p : Nat) (W : World) : Prop :=
  ∀ (r : Int) (w' : World), Below p W w' → Calls Tryd.prog F (#[.int .i64 r] ++ caps) w' fun e w'' => e = .returned (.bool (f r)) ∧ Below w'.heap.size w' w''
/-- What the walk asks of a callable number. -/
def Enters (F : Nat) : Prop := ∀ args w, (callFunc F args).run Tryd.prog w = .ok (.enter F args) w

theorem below_drw {B : Nat} {a w : World} (h : Below B a w) (n : Nat) : Below B a (w.drewN n) := ⟨h.os, h.tape, h.output, h.size, h.block⟩

set_option maxRecDepth 100000 in
set_option maxHeartbeats 2000000 in
theorem end_any (l : List UInt8) (A : Option Addr) (n c k : Nat) (w : World) (F G : Nat) (cf cg : Array Value) (p q : Int → Bool)
    (hn : l.length = n) (hnc : n ≤ c) (hm : c ≤ 9223372036854775807) (hk : k ≤ n) (hs : Sees w A (vB l))
    (hF : Enters F) (hG : Enters G) (tF : Tells F cf p w.heap.size w) (tG : Tells G cg q w.heap.size w) :
    Calls Tryd.prog 144 #[.agg #[.func (.func F) #[] cf, .func (.func G) #[] cg], .slice A n c, .int .i64 k] w fun e w' =>
      e = .returned (.int .i64 (endN l q n p k : Nat)) ∧ Below w.heap.size w w' := by
  obtain ⟨z, hto⟩ : ∃ z, endN l q n p k = z := ⟨_, rfl⟩
  have HT := Lib.hid hto
  have HS := Lib.hid hs
  have HN := Lib.hid hn
  have TF := Lib.hid tF
  have TG := Lib.hid tG
  have hF' : ∀ args w, (callFunc F args).run Tryd.prog w = .ok (.enter F args) w := hF
  have hG' : ∀ args w, (callFunc G args).run Tryd.prog w = .ok (.enter G args) w := hG
  rw [hto]
  clear hto hs hn tF tG
  go_enter Tryd.func144, Tryd.ntmps144
  go_wp2_with fail
  go_loopw [2, 7] (fun i v wr => ∃ k' f H : Nat, ∃ ch : Array Value, ∃ h : Int → Bool, k' ≤ n ∧ n ≤ k' + f ∧ i = .int .i64 k' ∧ v = .func (.func H) #[] ch ∧ Enters H ∧ Hid (Tells H ch h w.heap.size w) ∧ Hid (endN l q f h k' = z) ∧ wr.cell? ⟨w.heap.size, 1, none⟩ = some (.func (.func G) #[] cg) ∧ Below w.heap.size w wr ∧ w.heap.size < wr.heap.size) (fun i _ _ => n - (intOf i).toNat)
  case atStart => exact ⟨k, n, F, cf, p, hk, by omega, rfl, rfl, hF, TF, HT, by simp [World.cell?_alloc_new], (Below.refl _ _).alloc (Nat.le_refl _) _, by simp⟩
  case round =>
    obtain ⟨k', f, H, ch, h, hkn, hnf, rfl, rfl, hH, TH, HZ, hcell, hB, hsz⟩ := hrel
    have hH' : ∀ args w, (callFunc H args).run Tryd.prog w = .ok (.enter H args) w := hH
    have hs' := HS.out.below hB
    by_cases hlt : k' < n
    · obtain ⟨r, m, hrm⟩ : ∃ r m, chrAt l k' = (r, m) := ⟨_, _, rfl⟩
      have hroom := chrAt_room l k' (by rw [HN.out]; exact hlt)
      rw [hrm, HN.out] at hroom
      simp only [] at hroom
      by_cases h0 : m = 0
      · have H1 := Lib.hid (decode_err l A n c k' wr HN.out hnc hm hlt hs' (by rw [hrm]; exact h0))
        have HE := Lib.hid (endN_out (l := l) (p := h) (q := q) f k' (.inr (.inl (by rw [hrm]; exact h0))))
        clear hrm hs' hroom
        go_wp2_with fail
        refine H1.out.mono ?_
        rintro e w1 ⟨rfl, rfl⟩
        go_wp2_with fail
        go_ret
        exact ⟨by have hz := HZ.out; rw [HE.out] at hz; subst hz; rfl, hB⟩
      · have H1 := Lib.hid (decode_ok l A n c k' wr HN.out hnc hm hlt hs' r m hrm h0)
        have C := TH.out r wr hB
        cases hr : h r with
        | false =>
          rw [hr] at C
          have HC := Lib.hid C
          have HE := Lib.hid (endN_out (l := l) (p := h) (q := q) f k' (.inr (.inr (by rw [hrm]; exact hr))))
          clear hrm hs' C hr hroom
          go_wp2_with fail
          refine H1.out.mono ?_
          rintro e w1 ⟨rfl, rfl⟩
          go_wp2_with fail
          refine HC.out.mono ?_
          rintro e w1 ⟨rfl, hb⟩
          go_wp2_with fail
          go_ret
          exact ⟨by have hz := HZ.out; rw [HE.out] at hz; subst hz; rfl, hB.trans (hb.mono hB.size)⟩
        | true =>
          rw [hr] at C
          have HC := Lib.hid C
          obtain ⟨g, rfl⟩ : ∃ g, f = g + 1 := ⟨f - 1, by omega⟩
          have HE := Lib.hid (endN_on (l := l) (p := h) (q := q) g k' (by rw [HN.out]; exact hlt) hrm h0 hr)
          clear hrm hs' C hr
          go_wp2_with fail
          refine H1.out.mono ?_
          rintro e w1 ⟨rfl, rfl⟩
          go_wp2_with fail
          refine HC.out.mono ?_
          rintro e w1 ⟨rfl, hb⟩
          have hcell' := cell_later hb hcell
          have hbs := hb.size
          go_wp2_with fail
          go_quiet (fail)
          go_wp2_with fail
          go_roundw
          case rel => exact ⟨k' + m, g, G, cg, q, by omega, by omega, by go_num, rfl, hG, TG, by unfold Hid; rw [← HE.out]; exact HZ.out, hcell', below_drw (hB.trans (hb.mono hB.size)) _, Nat.lt_of_lt_of_le hsz hbs⟩
          case measure => simp [intOf]; omega
    · obtain rfl : k' = n := by omega
      have H1 := Lib.hid (decode_out l A k' c k' wr (.inr (Int.le_refl _)))
      have HE := Lib.hid (endN_out (l := l) (p := h) (q := q) f k' (.inl (by rw [HN.out]; exact Nat.le_refl _)))
      go_wp2_with fail
      refine H1.out.mono ?_
      rintro e w1 ⟨rfl, rfl⟩
      go_wp2_with fail
      go_ret
      exact ⟨by have hz := HZ.out; rw [HE.out] at hz; subst hz; rfl, hB⟩
end Go.Proofs.YtdmfladcldkmeaaDoor
