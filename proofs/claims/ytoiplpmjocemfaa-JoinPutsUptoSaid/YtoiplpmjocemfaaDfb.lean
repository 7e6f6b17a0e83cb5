/- The elements that are open ahead of a place, by package diff. -/
import Derived.Test.YtoiplpmjocemfaaDfa
import Derived.Laws.AppendOwn
namespace Go.Proofs.Ytoiplpmjocemfaa
open Go.ChangeShapes Go.WideShapes Go.ChangeAt Go.RowKit
set_option linter.unusedVariables false
set_option maxRecDepth 100000

/-- The elements that are open ahead of a place. -/
def openN (l : List Ev) (k : Nat) : List ByteArray := (l.take k).foldl stepO []
theorem openN_succ {l : List Ev} {k : Nat} {e : Ev} (h : l[k]? = some e) : openN l (k + 1) = stepO (openN l k) e := by
  obtain ⟨hk, he⟩ := List.getElem?_eq_some_iff.1 h
  unfold openN
  rw [List.take_succ_eq_append_getElem hk, List.foldl_append, he]
  rfl
theorem openN_len (l : List Ev) : ∀ k, (openN l k).length ≤ k
  | 0 => by simp [openN]
  | k + 1 => by
    have ih := openN_len l k
    by_cases hk : k < l.length
    · rw [openN_succ (List.getElem?_eq_getElem hk)]
      have := stepO_len (openN l k) l[k]
      omega
    · have e : openN l (k + 1) = openN l k := by unfold openN; rw [List.take_of_length_le (by omega), List.take_of_length_le (by omega)]
      rw [e]; omega
/-- A copy of strings. -/
def StrsPost (w : World) (xs : List ByteArray) (e : Ending) (w' : World) : Prop :=
  ∃ A c, e = .returned (.slice A xs.length c) ∧ Sees w' A (sV xs) ∧ xs.length ≤ c ∧ c ≤ 9223372036854775807 ∧ Below w.heap.size w w'
theorem own_sees {w : World} {base : Nat} {e : TypeId} {A : Option Addr} {n m c : Nat} {xs : List Value} (h : w.ownsRow base e 1 (.slice A m c) n xs) : Sees w A xs := by
  intro hne
  rcases h.2 with ⟨h1, h2⟩ | ⟨g, cap, cur, h1, h2, h3, h4⟩
  · have := h.1
    subst h2
    exact absurd (List.eq_nil_of_length_eq_zero (by simpa using this)) hne
  · injection h1 with h5
    refine ⟨⟨g, 0, none⟩, h5, fun j u hu => h.cells (g := g) ?_ j u hu⟩
    rw [h5]; rfl
set_option maxHeartbeats 1000000 in
theorem sClone_any (w : World) (A : Option Addr) (n c : Nat) (xs : List ByteArray) (hn : xs.length = n) (hc : n ≤ 1000000) (hs : Sees w A (sV xs)) :
    Calls Try.prog 84 #[.slice A n c] w (StrsPost w xs) := by
  obtain ⟨i0, hi0, hz0, hz1, hz2⟩ := info_parts strInfo
  cases A with
  | none =>
    have hl : xs = [] := by
      cases xs with
      | nil => rfl
      | cons x l => obtain ⟨_, e, _⟩ := hs (by simp [sV]); cases e
    subst hl
    simp only [List.length_nil] at hn
    subst hn
    have kn := fun w : World => Lib.run_eql_slice_nil (P := Try.prog) w 82 9 none 0 c 0 0 Try.underlying82
    clear hs
    go_enter Try.func84, Try.ntmps84
    go_wp2
    go_ret
    exact ⟨none, 0, rfl, sees_nil _ _, Nat.le_refl _, by omega, Below.refl _ _⟩
  | some ad =>
    have kn := fun w : World => Lib.run_eql_slice_nil (P := Try.prog) w 82 9 (some ad) n c 0 0 Try.underlying82
    have HV : Hid (∀ j u, (sV xs)[j]? = some u → (w.alloc (.cells #[] 9)).cell? (ad.add j) = some u) := fun j u hu => by
      obtain ⟨a2, e, h⟩ := (hs.below ((Below.refl _ w).alloc (Nat.le_refl _) (.cells #[] 9))) (by intro h0; rw [h0] at hu; simp at hu)
      injection e with e
      subst e
      exact h j u hu
    have HL := Lib.hid (show (sV xs).length = n * 1 by rw [sV_len, hn, Nat.mul_one])
    have HO := Lib.hid (World.ownsRow_made (base := w.heap.size) (e := 9) (size := 1) w #[] 0 (Nat.le_refl _) (by unfold maxLen; omega) rfl)
    have HN := Lib.hid hn
    clear hs hn
    go_enter Try.func84, Try.ntmps84
    go_wp2_with (first | (at_builtin; refine wpList_append_own _ rfl _ _ 82 rfl w.heap.size 9 i0 (.string ⟨#[]⟩) 1 16 Try.underlying82 hi0 hz0 hz1 hz2 rfl (by decide) _ 0 [] rfl HO.out ad n c (sV xs) rfl HL.out HV.out (sV_one xs) (by unfold maxLen; omega) (by omega) (by simp) ?_; intro v' w1 hown1 hgrow1 _; obtain ⟨A1, c1, rfl⟩ := own_form2 hown1; have HO1 := Lib.hid hown1; have HG := Lib.hid hgrow1; clear hown1 hgrow1))
    go_ret
    have ho := HO1.out
    rw [Nat.zero_add, List.nil_append] at ho
    have hg : (w.alloc (.cells #[] 9)).grownBy w1 (some w.heap.size) := HG.out
    have e := HN.out
    subst e
    exact ⟨A1, c1, rfl, own_sees ho, (own_cap2 ho).1, (own_cap2 ho).2, ((Below.refl _ w).alloc (Nat.le_refl _) _).grown hg (by simp) (fun k hk => by injection hk with hk; omega)⟩

/-- What Path tells. -/
def PathPost (w : World) (xs : List ByteArray) (e : Ending) (w' : World) : Prop :=
  ∃ A c, e = .returned (.tuple #[.slice A xs.length c, .int .i64 0]) ∧ Sees w' A (sV xs) ∧ xs.length ≤ c ∧ c ≤ 9223372036854775807 ∧ Below w.heap.size w w'
def OpenRel (l : List Ev) (m : Nat) (w : World) (v i : Value) (wr : World) : Prop :=
  ∃ (j n : Nat) (A : Option Addr) (c : Nat), j ≤ m ∧ i = .int .i64 j ∧ v = .slice A n c ∧ (openN l j).length = n ∧ wr.ownsRow w.heap.size 9 1 (.slice A n c) n (sV (openN l j)) ∧ Below w.heap.size w wr
set_option maxHeartbeats 4000000 in
theorem path_in (l : List Ev) (A : Option Addr) (n c m : Nat) (w : World) (hl : l.length = n) (hnc : n ≤ c) (hc9 : c ≤ 9223372036854775807) (hn9 : n ≤ 1000000) (hA : EvsOk w A l) (hm : m ≤ n) :
    Calls Try.prog 61 #[.slice A n c, .int .i64 m] w (PathPost w (openN l m)) := by
  have HL := Lib.hid hl
  have HA := Lib.hid hA
  have HC := Lib.hid (fun (w' : World) (A' : Option Addr) (n' c' : Nat) (xs : List ByteArray) h1 h2 h3 => sClone_any w' A' n' c' xs h1 h2 h3)
  have hmc : m ≤ c := by omega
  have d1 : decide ((m : Int) < 0) = false := by simp
  have d2 : decide (n < m) = false := by simp; omega
  clear hl hA
  go_enter Try.func61, Try.ntmps61
  go_wp2_with fail
  go_loopw [6, 21] (fun v i wr => OpenRel l m w v i wr) (fun _ i _ => m - (intOf i).toNat)
  case atStart => exact ⟨0, 0, none, 0, by omega, rfl, rfl, rfl, World.ownsRow_nil _ _ _ _, Below.refl _ _⟩
  case round =>
    obtain ⟨j, q, A2, c2, hj, rfl, rfl, hq, hown, hbw⟩ := hrel
    have hq9 : q ≤ j := by rw [← hq]; exact openN_len l j
    have HO := Lib.hid hown
    have HQ := Lib.hid hq
    clear hown hq
    by_cases hlt : j < m
    · obtain ⟨a, ha⟩ : ∃ a, l[j]? = some a := ⟨_, List.getElem?_eq_getElem (by rw [HL.out]; omega)⟩
      obtain ⟨x, rfl, x0, x1, x2, x3, x4⟩ := (HA.out.below hbw).sees.ev ha
      have HN := Lib.hid (openN_succ ha)
      have i0 : (0 : Int) ≤ (j : Int) := by omega
      have i1 : (j : Int) < (m : Int) := by omega
      have i2 : j < m := hlt
      clear ha
      go_wp2_with fail
      have hws := hbw.size
      refine (step_any a w.heap.size A2 q c2 (openN l j) _ (HO.out.alloc _) (by simp; omega) (by omega)).mono ?_
      rintro e w3 ⟨A3, c3, rfl, hown3, _, _, _, hb3⟩
      rw [← HN.out] at hown3 ⊢
      obtain ⟨q3, hq3⟩ : ∃ q3, (openN l (j + 1)).length = q3 := ⟨_, rfl⟩
      rw [hq3] at hown3 ⊢
      have HO3 := Lib.hid hown3
      have HQ3 := Lib.hid hq3
      clear hown3 hq3
      go_wp2_with fail
      go_roundw
      case rel => exact ⟨j + 1, q3, A3, c3, by omega, by go_num, rfl, HQ3.out, HO3.out, (hbw.alloc hws _).trans hb3⟩
      case measure => simp [intOf]; omega
    · obtain rfl : j = m := by omega
      go_wp2_with fail
      refine (HC.out wr A2 q c2 (openN l j) HQ.out (by omega) (own_sees HO.out)).mono ?_
      rintro e w3 ⟨A3, c3, rfl, hs3, hle, hcm, hb3⟩
      have HS3 := Lib.hid hs3
      clear hs3
      go_wp2_with fail
      go_ret2
      exact ⟨A3, c3, rfl, HS3.out, hle, hcm, hbw.trans (hb3.mono hbw.size)⟩
set_option maxHeartbeats 1000000 in
theorem path_out (A : Option Addr) (n c : Nat) (k : Int) (w : World) (hk : k < 0 ∨ (n : Int) < k) :
    Calls Try.prog 61 #[.slice A n c, .int .i64 k] w fun e w' => e = .returned (.tuple #[.slice none 0 0, .int .i64 3]) ∧ Below w.heap.size w w' := by
  rcases hk with h | h
  · go_enter Try.func61, Try.ntmps61
    go_wp2_with fail
    go_ret2
    exact ⟨rfl, Below.refl _ _⟩
  · have h0 : ¬ k < 0 := by omega
    go_enter Try.func61, Try.ntmps61
    go_wp2_with fail
    go_ret2
    exact ⟨rfl, Below.refl _ _⟩

/-- How many elements are open, of those that begin at a place or behind it, behind the k-th event from it on. -/
def deepN (l : List Ev) : Nat → Int
  | 0 => 0
  | k + 1 => deepN l k + (match l[k]? with | some e => if e.kind = 1 then 1 else if e.kind = 2 then -1 else 0 | none => 0)
theorem deepN_le (l : List Ev) : ∀ k : Nat, -(k : Int) ≤ deepN l k ∧ deepN l k ≤ k
  | 0 => by simp [deepN]
  | k + 1 => by
    have ih := deepN_le l k
    rw [deepN]
    split
    · split
      · omega
      · split <;> omega
    · omega
theorem deepN_at {l : List Ev} {k : Nat} {e : Ev} (h : l[k]? = some e) : deepN l (k + 1) = deepN l k + (if e.kind = 1 then 1 else if e.kind = 2 then -1 else 0) := by rw [deepN, h]
/-- The place of the end of the element that begins a row of events, from place k on. -/
def spanN (l : List Ev) : Nat → Nat → Option Nat
  | 0, _ => none
  | f + 1, k => match l[k]? with
    | none => none
    | some e => if e.kind = 2 ∧ deepN l (k + 1) = 0 then some k else spanN l f (k + 1)
theorem spanN_hit {l : List Ev} {f k : Nat} {e : Ev} (h : l[k]? = some e) (h1 : e.kind = 2) (h2 : deepN l (k + 1) = 0) : spanN l (f + 1) k = some k := by rw [spanN, h]; simp only; rw [if_pos ⟨h1, h2⟩]
theorem spanN_miss {l : List Ev} {f k : Nat} {e : Ev} (h : l[k]? = some e) (h1 : ¬ (e.kind = 2 ∧ deepN l (k + 1) = 0)) : spanN l (f + 1) k = spanN l f (k + 1) := by rw [spanN, h]; simp only; rw [if_neg h1]
theorem spanN_end {l : List Ev} (f : Nat) {k : Nat} (h : l.length ≤ k) : spanN l f k = none := by
  cases f with
  | zero => rfl
  | succ f => rw [spanN, List.getElem?_eq_none h]
/-- What Span tells. -/
def spanV (l : List Ev) (k : Int) : Int × Int :=
  if k < 0 ∨ (l.length : Int) ≤ k then (0, 3)
  else match l[k.toNat]? with
    | none => (0, 3)
    | some e => if e.kind ≠ 1 then (0, 4) else match spanN (l.drop k.toNat) l.length 0 with | some t => (k + (t : Nat), 0) | none => (0, 4)
end Go.Proofs.Ytoiplpmjocemfaa
