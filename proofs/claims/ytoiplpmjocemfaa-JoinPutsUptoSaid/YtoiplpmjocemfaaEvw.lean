/- Rows of events held against each other by package diff. -/
import Derived.Test.YtoiplpmjocemfaaEvv
namespace Go.Proofs.Ytoiplpmjocemfaa
open Go.ChangeShapes Go.WideShapes Go.ChangeAt Go.RowKit
set_option linter.unusedVariables false
set_option maxRecDepth 100000

/-- How far two rows are the same, from their beginning on; whether they are wholly. -/
def tog {α : Type} (f : α → α → Bool) : List α → List α → Nat
  | a :: l, b :: m => if f a b = true then tog f l m + 1 else 0
  | _, _ => 0
def rowE {α : Type} (f : α → α → Bool) : List α → List α → Bool
  | [], [] => true
  | a :: l, b :: m => f a b && rowE f l m
  | _, _ => false
theorem tog_le {α : Type} (f : α → α → Bool) : ∀ l m : List α, tog f l m ≤ l.length ∧ tog f l m ≤ m.length
  | [], _ => ⟨Nat.zero_le _, Nat.zero_le _⟩
  | _ :: _, [] => ⟨Nat.zero_le _, Nat.zero_le _⟩
  | a :: l, b :: m => by
    have := tog_le f l m
    rw [tog]
    split
    · simp; omega
    · simp
theorem tog_at {α : Type} {f : α → α → Bool} : ∀ {l m : List α} {k : Nat} {a b : α}, l[k]? = some a → m[k]? = some b → tog f (l.drop k) (m.drop k) = if f a b = true then tog f (l.drop (k + 1)) (m.drop (k + 1)) + 1 else 0
  | a :: l, b :: m, 0, a', b', ha, hb => by
    obtain rfl : a = a' := by simpa using ha
    obtain rfl : b = b' := by simpa using hb
    simp [tog]
  | a :: l, b :: m, k + 1, a', b', ha, hb => by simpa using tog_at (f := f) (l := l) (m := m) (k := k) (by simpa using ha) (by simpa using hb)
  | [], _, _, _, _, h, _ => by simp at h
  | _ :: _, [], _, _, _, _, h => by simp at h
theorem tog_nil {α : Type} {f : α → α → Bool} {l m : List α} {k : Nat} (h : l.length ≤ k ∨ m.length ≤ k) : tog f (l.drop k) (m.drop k) = 0 := by
  rcases h with h | h
  · rw [List.drop_eq_nil_of_le h]; rfl
  · rw [List.drop_eq_nil_of_le h]; cases l.drop k <;> rfl
theorem tog_all {α : Type} {f : α → α → Bool} : ∀ {l m : List α}, l.length = m.length → (decide (tog f l m = l.length) = rowE f l m)
  | [], [], _ => rfl
  | a :: l, b :: m, h => by
    have ih := tog_all (f := f) (l := l) (m := m) (by simpa using h)
    rw [tog, rowE, ← ih]
    cases f a b <;> simp
  | [], _ :: _, h => by simp at h
  | _ :: _, [], h => by simp at h
theorem rowE_len {α : Type} {f : α → α → Bool} : ∀ {l m : List α}, rowE f l m = true → l.length = m.length
  | [], [], _ => rfl
  | _ :: l, _ :: m, h => by rw [rowE, Bool.and_eq_true] at h; simp [rowE_len h.2]
  | [], _ :: _, h => by simp [rowE] at h
  | _ :: _, [], h => by simp [rowE] at h
theorem rowE_ne {α : Type} {f : α → α → Bool} {l m : List α} (h : l.length ≠ m.length) : rowE f l m = false := by
  cases hq : rowE f l m with
  | false => rfl
  | true => exact absurd (rowE_len hq) h
theorem rowE_at {α : Type} {f : α → α → Bool} : ∀ {l m : List α} {k : Nat} {a b : α}, l[k]? = some a → m[k]? = some b → rowE f (l.drop k) (m.drop k) = (f a b && rowE f (l.drop (k + 1)) (m.drop (k + 1)))
  | a :: l, b :: m, 0, a', b', ha, hb => by
    obtain rfl : a = a' := by simpa using ha
    obtain rfl : b = b' := by simpa using hb
    simp [rowE]
  | a :: l, b :: m, k + 1, a', b', ha, hb => by simpa using rowE_at (f := f) (l := l) (m := m) (k := k) (by simpa using ha) (by simpa using hb)
  | [], _, _, _, _, h, _ => by simp at h
  | _ :: _, [], _, _, _, _, h => by simp at h
theorem rowE_end {α : Type} {f : α → α → Bool} {l m : List α} {k : Nat} (h : l.length = m.length) (hk : l.length ≤ k) : rowE f (l.drop k) (m.drop k) = true := by
  rw [List.drop_eq_nil_of_le hk, List.drop_eq_nil_of_le (by omega)]; rfl
theorem rowE_self {α : Type} {f : α → α → Bool} (h : ∀ a, f a a = true) : ∀ l, rowE f l l = true
  | [] => rfl
  | a :: l => by rw [rowE, h, rowE_self h l]; rfl

set_option maxHeartbeats 1000000 in
theorem sameEvent_any (x y : Ev) (w : World) (hx : EvOk w x) (hy : EvOk w y) :
    Calls Try.prog 75 #[evW x, evW y] w fun e w' => e = .returned (.bool (evE x y)) ∧ Below w.heap.size w w' := by
  have H := Lib.hid (fun (w' : World) (hb : Below w.heap.size w w') => parts_any x y w' (hx.below hb) (hy.below hb))
  have hz := parts_zero x y
  obtain ⟨p, hp⟩ : ∃ p, partsE x y = p := ⟨_, rfl⟩
  obtain ⟨b, hb⟩ : ∃ b, evE x y = b := ⟨_, rfl⟩
  rw [hp] at hz H
  rw [hb] at hz ⊢
  have t : (p == 0) = b := hz
  clear hx hy hp hb hz
  obtain ⟨k, sp, lo, at_, A, c, tx⟩ := x
  obtain ⟨k', sp', lo', at_', A', c', tx'⟩ := y
  unfold evW at *
  simp only at *
  obtain ⟨n, hn⟩ : ∃ n, at_.length = n := ⟨_, rfl⟩
  obtain ⟨m, hm⟩ : ∃ m, at_'.length = m := ⟨_, rfl⟩
  rw [hn, hm] at H ⊢
  clear hn hm
  have hb1 : Below w.heap.size w ((w.alloc (.cells #[.int .i64 k, .string sp, .string lo, .slice A n c, .string tx] 76)).alloc (.cells #[.int .i64 k', .string sp', .string lo', .slice A' m c', .string tx'] 76)) := ((Below.refl _ _).alloc (Nat.le_refl _) _).alloc (by simp) _
  go_enter Try.func75, Try.ntmps75
  go_wp2_with fail
  refine (H.out _ hb1).mono ?_
  rintro e w2 ⟨rfl, hb2⟩
  go_wp2_with fail
  go_ret
  exact ⟨rfl, hb1.trans (hb2.mono hb1.size)⟩
end Go.Proofs.Ytoiplpmjocemfaa
