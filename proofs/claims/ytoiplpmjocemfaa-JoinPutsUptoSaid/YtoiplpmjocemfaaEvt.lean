/- Events and their attributes, as cells and as values. -/
import Derived.Test.YtoiplpmjocemfaaSees
namespace Go.Proofs.Ytoiplpmjocemfaa
open Go.ChangeShapes Go.WideShapes Go.ChangeAt Go.RowKit
set_option linter.unusedVariables false
set_option maxRecDepth 100000

/-- An attribute: its namespace, its local name, its value. -/
abbrev Att := ByteArray × ByteArray × ByteArray
def aC (a : Att) : List Value := [.string a.1, .string a.2.1, .string a.2.2]
def attsV (l : List Att) : List Value := l.flatMap aC
/-- An event, and where its attributes lie. -/
structure Ev where
  kind : Int
  sp : ByteArray
  lo : ByteArray
  at_ : List Att
  A : Option Addr
  c : Nat
  tx : ByteArray
def evC (e : Ev) : List Value := [.int .i64 e.kind, .string e.sp, .string e.lo, .slice e.A e.at_.length e.c, .string e.tx]
def evsV (l : List Ev) : List Value := l.flatMap evC
theorem attsV_len (l : List Att) : (attsV l).length = l.length * 3 := by
  induction l with
  | nil => rfl
  | cons a l ih => show (aC a ++ attsV l).length = _; rw [List.length_append, ih, List.length_cons]; simp [aC]; omega
theorem evsV_len (l : List Ev) : (evsV l).length = l.length * 5 := by
  induction l with
  | nil => rfl
  | cons a l ih => show (evC a ++ evsV l).length = _; rw [List.length_append, ih, List.length_cons]; simp [evC]; omega
theorem attsV_get : ∀ (l : List Att) (k : Nat) (a : Att), l[k]? = some a → (attsV l)[k * 3]? = some (.string a.1) ∧ (attsV l)[k * 3 + 1]? = some (.string a.2.1) ∧ (attsV l)[k * 3 + 2]? = some (.string a.2.2)
  | [], k, x, h => by simp at h
  | y :: l, 0, x, h => by
    obtain rfl : y = x := by simpa using h
    exact ⟨rfl, rfl, rfl⟩
  | y :: l, k + 1, x, h => by
    have ih := attsV_get l k x (by simpa using h)
    have e : attsV (y :: l) = aC y ++ attsV l := rfl
    rw [e, show (k + 1) * 3 = k * 3 + 3 by omega]
    exact ih
theorem evsV_get : ∀ (l : List Ev) (k : Nat) (e : Ev), l[k]? = some e → (evsV l)[k * 5]? = some (.int .i64 e.kind) ∧ (evsV l)[k * 5 + 1]? = some (.string e.sp) ∧ (evsV l)[k * 5 + 2]? = some (.string e.lo) ∧ (evsV l)[k * 5 + 3]? = some (.slice e.A e.at_.length e.c) ∧ (evsV l)[k * 5 + 4]? = some (.string e.tx)
  | [], k, x, h => by simp at h
  | y :: l, 0, x, h => by
    obtain rfl : y = x := by simpa using h
    exact ⟨rfl, rfl, rfl, rfl, rfl⟩
  | y :: l, k + 1, x, h => by
    have ih := evsV_get l k x (by simpa using h)
    have e : evsV (y :: l) = evC y ++ evsV l := rfl
    rw [e, show (k + 1) * 5 = k * 5 + 5 by omega]
    exact ih
theorem fldn (a : Addr) (j n : Nat) (hn : n ≠ 0) : a.add (j + n) = ⟨(a.add j).block, (a.add j).off + n, none⟩ := by
  rw [← addr_add_add a j n]
  generalize a.add j = b
  unfold Addr.add
  rw [if_neg hn]
/-- The cells of an attribute, of an event, that lies at an address. -/
theorem Sees.att {w : World} {A : Option Addr} {l : List Att} (h : Sees w A (attsV l)) {k : Nat} {a : Att} (hk : l[k]? = some a) :
    ∃ ad, A = some ad ∧ w.cell? (ad.add (k * 3)) = some (.string a.1) ∧ w.cell? ⟨(ad.add (k * 3)).block, (ad.add (k * 3)).off + 1, none⟩ = some (.string a.2.1) ∧ w.cell? ⟨(ad.add (k * 3)).block, (ad.add (k * 3)).off + 2, none⟩ = some (.string a.2.2) := by
  obtain ⟨h1, h2, h3⟩ := attsV_get l k a hk
  obtain ⟨ad, e, hc⟩ := h (by intro h0; rw [h0] at h1; simp at h1)
  exact ⟨ad, e, hc _ _ h1, fldn ad _ 1 (by omega) ▸ hc _ _ h2, fldn ad _ 2 (by omega) ▸ hc _ _ h3⟩
theorem Sees.ev {w : World} {A : Option Addr} {l : List Ev} (h : Sees w A (evsV l)) {k : Nat} {e : Ev} (hk : l[k]? = some e) :
    ∃ ad, A = some ad ∧ w.cell? (ad.add (k * 5)) = some (.int .i64 e.kind) ∧ w.cell? ⟨(ad.add (k * 5)).block, (ad.add (k * 5)).off + 1, none⟩ = some (.string e.sp) ∧ w.cell? ⟨(ad.add (k * 5)).block, (ad.add (k * 5)).off + 2, none⟩ = some (.string e.lo) ∧
      w.cell? ⟨(ad.add (k * 5)).block, (ad.add (k * 5)).off + 3, none⟩ = some (.slice e.A e.at_.length e.c) ∧ w.cell? ⟨(ad.add (k * 5)).block, (ad.add (k * 5)).off + 4, none⟩ = some (.string e.tx) := by
  obtain ⟨h1, h2, h3, h4, h5⟩ := evsV_get l k e hk
  obtain ⟨ad, e', hc⟩ := h (by intro h0; rw [h0] at h1; simp at h1)
  exact ⟨ad, e', hc _ _ h1, fldn ad _ 1 (by omega) ▸ hc _ _ h2, fldn ad _ 2 (by omega) ▸ hc _ _ h3, fldn ad _ 3 (by omega) ▸ hc _ _ h4, fldn ad _ 4 (by omega) ▸ hc _ _ h5⟩
/-- The attributes of an event can be read. -/
structure EvOk (w : World) (e : Ev) : Prop where
  at_ : Sees w e.A (attsV e.at_)
  nc : e.at_.length ≤ e.c
  cm : e.c ≤ 9223372036854775807
  wf : I64 e.kind
theorem EvOk.below {w w' : World} {e : Ev} (h : EvOk w e) (hb : Below w.heap.size w w') : EvOk w' e := ⟨h.at_.below hb, h.nc, h.cm, h.wf⟩
/-- A slice of events can be read. -/
structure EvsOk (w : World) (A : Option Addr) (l : List Ev) : Prop where
  sees : Sees w A (evsV l)
  each : ∀ e ∈ l, EvOk w e
theorem EvsOk.below {w w' : World} {A : Option Addr} {l : List Ev} (h : EvsOk w A l) (hb : Below w.heap.size w w') : EvsOk w' A l := ⟨h.sees.below hb, fun e he => (h.each e he).below hb⟩
theorem EvsOk.get {w : World} {A : Option Addr} {l : List Ev} (h : EvsOk w A l) {k : Nat} {e : Ev} (hk : l[k]? = some e) : EvOk w e := h.each e (List.mem_of_getElem? hk)
/-- An event by value; an attribute by value. -/
def evW (e : Ev) : Value := .agg #[.int .i64 e.kind, .string e.sp, .string e.lo, .slice e.A e.at_.length e.c, .string e.tx]
def atW (a : Att) : Value := .agg #[.string a.1, .string a.2.1, .string a.2.2]

/-- Are strings, attributes, rows of attributes, events the same? -/
def sE (a b : ByteArray) : Bool := decide (a.toList = b.toList)
def aE (a b : Att) : Bool := sE a.1 b.1 && sE a.2.1 b.2.1 && sE a.2.2 b.2.2
def asE : List Att → List Att → Bool
  | [], [] => true
  | a :: l, b :: m => aE a b && asE l m
  | _, _ => false
def nE (x y : Ev) : Bool := sE x.sp y.sp && sE x.lo y.lo
def evE (x y : Ev) : Bool := decide (x.kind = y.kind) && nE x y && asE x.at_ y.at_ && sE x.tx y.tx
theorem sE_true {a b : ByteArray} : sE a b = true ↔ a.toList = b.toList := by unfold sE; simp
theorem sE_self (a : ByteArray) : sE a a = true := by unfold sE; simp
theorem aE_self (a : Att) : aE a a = true := by unfold aE; simp [sE_self]
theorem asE_self : ∀ l, asE l l = true
  | [] => rfl
  | a :: l => by rw [asE, aE_self, asE_self l]; rfl
theorem evE_self (e : Ev) : evE e e = true := by unfold evE nE; simp [sE_self, asE_self]
theorem asE_len : ∀ {l m : List Att}, asE l m = true → l.length = m.length
  | [], [], _ => rfl
  | _ :: l, _ :: m, h => by rw [asE, Bool.and_eq_true] at h; simp [asE_len h.2]
  | [], _ :: _, h => by simp [asE] at h
  | _ :: _, [], h => by simp [asE] at h
/-- How far two rows of attributes are the same, from place k on. -/
theorem asE_at : ∀ {l m : List Att} (k : Nat), l.length = m.length → asE (l.drop k) (m.drop k) = (match l[k]?, m[k]? with | some a, some b => aE a b && asE (l.drop (k + 1)) (m.drop (k + 1)) | _, _ => true)
  | [], [], k, _ => by simp [asE]
  | a :: l, b :: m, 0, _ => by simp [asE]
  | a :: l, b :: m, k + 1, h => by simpa using asE_at (l := l) (m := m) k (by simpa using h)
  | [], _ :: _, _, h => by simp at h
  | _ :: _, [], _, h => by simp at h
theorem asE_step {l m : List Att} {k : Nat} {a b : Att} (h : l.length = m.length) (ha : l[k]? = some a) (hb : m[k]? = some b) : asE (l.drop k) (m.drop k) = (aE a b && asE (l.drop (k + 1)) (m.drop (k + 1))) := by
  rw [asE_at k h, ha, hb]
theorem asE_end {l m : List Att} {k : Nat} (h : l.length = m.length) (hk : l.length ≤ k) : asE (l.drop k) (m.drop k) = true := by
  rw [List.drop_eq_nil_of_le hk, List.drop_eq_nil_of_le (by omega)]; rfl
theorem asE_ne {l m : List Att} (h : l.length ≠ m.length) : asE l m = false := by
  cases hq : asE l m with
  | false => rfl
  | true => exact absurd (asE_len hq) h

set_option maxHeartbeats 400000 in
theorem sameAttr_any (x y : Att) (w : World) :
    Calls Try.prog 78 #[atW x, atW y] w fun e w' => e = .returned (.bool (aE x y)) ∧ Below w.heap.size w w' := by
  obtain ⟨a, b, c⟩ := x
  obtain ⟨a', b', c'⟩ := y
  unfold atW aE
  go_enter Try.func78, Try.ntmps78
  go_wp2_with fail
  all_goals
    go_ret
    exact ⟨ret_bool (by unfold sE; simp [*]), ((Below.refl _ _).alloc (Nat.le_refl _) _).alloc (by simp) _⟩

/-- The rounds of 'together' over attributes. -/
def togA : List Att → List Att → Nat
  | a :: l, b :: m => if aE a b = true then togA l m + 1 else 0
  | _, _ => 0
theorem togA_le : ∀ l m : List Att, togA l m ≤ l.length ∧ togA l m ≤ m.length
  | [], _ => ⟨Nat.zero_le _, Nat.zero_le _⟩
  | _ :: _, [] => ⟨Nat.zero_le _, Nat.zero_le _⟩
  | a :: l, b :: m => by
    have := togA_le l m
    rw [togA]
    split
    · simp; omega
    · simp
theorem togA_at : ∀ {l m : List Att} {k : Nat} {a b : Att}, l[k]? = some a → m[k]? = some b → togA (l.drop k) (m.drop k) = if aE a b = true then togA (l.drop (k + 1)) (m.drop (k + 1)) + 1 else 0
  | a :: l, b :: m, 0, a', b', ha, hb => by
    obtain rfl : a = a' := by simpa using ha
    obtain rfl : b = b' := by simpa using hb
    simp [togA]
  | a :: l, b :: m, k + 1, a', b', ha, hb => by simpa using togA_at (l := l) (m := m) (k := k) (by simpa using ha) (by simpa using hb)
  | [], _, _, _, _, h, _ => by simp at h
  | _ :: _, [], _, _, _, _, h => by simp at h
theorem togA_nil {l m : List Att} {k : Nat} (h : l.length ≤ k ∨ m.length ≤ k) : togA (l.drop k) (m.drop k) = 0 := by
  rcases h with h | h
  · rw [List.drop_eq_nil_of_le h]; rfl
  · rw [List.drop_eq_nil_of_le h]; cases l.drop k <;> rfl
theorem togA_all : ∀ {l m : List Att}, l.length = m.length → (decide (togA l m = l.length) = asE l m)
  | [], [], _ => rfl
  | a :: l, b :: m, h => by
    have ih := togA_all (l := l) (m := m) (by simpa using h)
    rw [togA, asE, ← ih]
    cases aE a b <;> simp
  | [], _ :: _, h => by simp at h
  | _ :: _, [], h => by simp at h
end Go.Proofs.Ytoiplpmjocemfaa
