/- Stacks: each call by one contract for every state; the document's own answers likewise. -/
import Derived.Test.YtoiplpmjocemfaaStkD
import Derived.Test.YtoiplpmjocemfaaInts
namespace Go.Proofs.Ytoiplpmjocemfaa
open Go.ChangeShapes Go.WideShapes Go.ChangeAt Go.RowKit
set_option linter.unusedVariables false

def pushL (room : Int) (xs : List Int) (x : Int) : List Int := if (xs.length : Int) < room then xs ++ [x] else xs
def pushE (room : Int) (xs : List Int) : Int := if (xs.length : Int) < room then 0 else 11
def topV (xs : List Int) : Int := xs.getLast?.getD 0
def hasV (xs : List Int) : Bool := !xs.isEmpty
def cutN (xs : List Int) (k : Int) : Nat := min k.toNat xs.length
/-- The highest place of a number. -/
def findV (xs : List Int) (x : Int) : Nat → Int × Bool
  | 0 => (0, false)
  | q + 1 => if xs[q]? = some x then ((q : Nat), true) else findV xs x q
theorem snoc_cases (xs : List Int) : xs = [] ∨ ∃ ys y, xs = ys ++ [y] := by
  rcases List.eq_nil_or_concat xs with h | ⟨ys, y, h⟩
  · exact .inl h
  · exact .inr ⟨ys, y, by rw [h]; simp⟩
theorem Stk.lt {w : World} {p : Nat} {room : Int} {xs : List Int} (h : Stk w p room xs) : p < w.heap.size := by
  obtain ⟨A, c, h⟩ := h; exact h.lt

theorem push_u (w : World) (p : Nat) (room x : Int) (xs : List Int) (h : Stk w p room xs) (hb : xs.length < 1099511627776) :
    Calls Try.prog 17 #[.pointer (some ⟨p, 0, none⟩), .int .i64 x] w fun e w' => e = .returned (.int .i64 (pushE room xs)) ∧ Stk w' p room (pushL room xs x) ∧ Below p w w' := by
  unfold pushE pushL
  by_cases hr : (xs.length : Int) < room
  · rw [if_pos hr, if_pos hr]
    exact stkPush_room w p room x xs h hr hb
  · rw [if_neg hr, if_neg hr]
    exact (stkPush_full w p room x xs h (by omega)).mono fun e w' ⟨h1, h2, h3⟩ => ⟨h1, h2, h3.mono (Nat.le_of_lt h.lt)⟩
theorem pop_u (w : World) (p : Nat) (room : Int) (xs : List Int) (h : Stk w p room xs) (hb : xs.length < 1099511627776) :
    Calls Try.prog 19 #[.pointer (some ⟨p, 0, none⟩)] w fun e w' => e = .returned (.tuple #[.int .i64 (topV xs), .bool (hasV xs)]) ∧ Stk w' p room xs.dropLast ∧ Below p w w' := by
  rcases snoc_cases xs with rfl | ⟨ys, y, rfl⟩
  · exact (stkPop_none w p room h).mono fun e w' ⟨h1, h2⟩ => ⟨h1, h2 ▸ h, h2 ▸ Below.refl _ _⟩
  · have := stkPop_some w p room y ys h (by simp at hb; omega)
    unfold topV hasV
    rw [List.dropLast_concat, List.getLast?_concat]
    refine this.mono fun e w' ⟨h1, h2, h3⟩ => ⟨?_, h2, h3⟩
    rw [h1]; simp
theorem top_u (w : World) (p : Nat) (room : Int) (xs : List Int) (h : Stk w p room xs) (hb : xs.length < 1099511627776) :
    Calls Try.prog 22 #[.pointer (some ⟨p, 0, none⟩)] w fun e w' => e = .returned (.tuple #[.int .i64 (topV xs), .bool (hasV xs)]) ∧ Below w.heap.size w w' := by
  rcases snoc_cases xs with rfl | ⟨ys, y, rfl⟩
  · exact (stkTop_none w p room h).mono fun e w' ⟨h1, h2⟩ => ⟨h1, h2 ▸ Below.refl _ _⟩
  · have := stkTop_some w p room y ys h (by simp at hb; omega)
    unfold topV hasV
    rw [List.getLast?_concat]
    refine this.mono fun e w' ⟨h1, h2⟩ => ⟨?_, h2⟩
    rw [h1]; simp
set_option maxRecDepth 100000 in
set_option maxHeartbeats 1000000 in
theorem stkCut_neg (w : World) (p : Nat) (room k : Int) (h : Stk w p room []) (hk : k < 0) :
    Calls Try.prog 21 #[.pointer (some ⟨p, 0, none⟩), .int .i64 k] w fun e w' => e = .returned (.tuple #[]) ∧ Stk w' p room [] ∧ Below p w w' := by
  obtain ⟨A, c, h'⟩ := h
  simp only [List.length_nil] at h'
  obtain ⟨c0, c1, c2⟩ := cell_of_two h'.blk
  have f1 := free_of_two h'.blk 1
  have HS := Lib.hid (h'.cut 0 (Nat.le_refl 0))
  have hcl : ∀ (a : Option Addr) (c : Nat) ty, (Builtin.clear_ #[30] ty #[.slice a 0 c]).run Try.prog w = .ok (.tuple #[]) w := fun a c ty => by
    cases a <;> simp [Builtin.clear_, run_underlying Try.underlying30]
  clear h'
  by_cases hcn : c = 0
  · subst hcn
    go_enter Try.func21, Try.ntmps21
    go_wp2_with (simp only [hcl])
    go_end0
    exact ⟨rfl, ⟨A, 0, HS.out⟩, (Below.refl p w).setCell (p := ⟨p, 1, none⟩) (Nat.le_refl _) _⟩
  · go_enter Try.func21, Try.ntmps21
    go_wp2_with (simp only [hcl])
    go_end0
    exact ⟨rfl, ⟨A, c, HS.out⟩, (Below.refl p w).setCell (p := ⟨p, 1, none⟩) (Nat.le_refl _) _⟩
theorem cut_u (w : World) (p : Nat) (room k : Int) (xs : List Int) (h : Stk w p room xs) (hb : xs.length < 1099511627776) :
    Calls Try.prog 21 #[.pointer (some ⟨p, 0, none⟩), .int .i64 k] w fun e w' => e = .returned (.tuple #[]) ∧ Stk w' p room (xs.take (cutN xs k)) ∧ Below p w w' := by
  by_cases hk : (xs.length : Int) ≤ k
  · have e : xs.take (cutN xs k) = xs := List.take_of_length_le (by unfold cutN; omega)
    rw [e]
    exact stkCut_all w p room k xs h hk
  · by_cases h0 : k < 0
    · by_cases hx : xs.length = 0
      · have hn := List.eq_nil_of_length_eq_zero hx
        subst hn
        rw [List.take_nil]
        exact stkCut_neg w p room k h h0
      · have e : cutN xs k = 0 := by unfold cutN; omega
        rw [e]
        exact stkCut_to w p room k 0 xs h (by omega) hb (.inr ⟨h0, rfl⟩)
    · have e : k = (cutN xs k : Nat) := by unfold cutN; omega
      exact stkCut_to w p room k (cutN xs k) xs h (by unfold cutN; omega) hb (.inl e)

theorem Stk.sees {w : World} {p : Nat} {room : Int} {xs : List Int} (h : Stk w p room xs) : ∃ A c, w.cell? ⟨p, 1, none⟩ = some (.slice A xs.length c) ∧ Sees w A (vK xs) ∧ xs.length ≤ c ∧ c ≤ 9223372036854775807 := by
  obtain ⟨A, c, h⟩ := h
  have hc := own_cap h.own
  refine ⟨A, c, (cell_of_two h.blk).2.2, ?_, hc.1, hc.2⟩
  intro hne
  rcases h.own.2 with ⟨h1, h2⟩ | ⟨g, cap, cur, h1, h2, h3, h4⟩
  · have := h.own.1
    rw [h2] at this
    exact absurd (List.eq_nil_of_length_eq_zero (by simpa using this)) hne
  · injection h1 with h5
    refine ⟨⟨g, 0, none⟩, h5, fun j u hu => h.own.cells (g := g) ?_ j u hu⟩
    rw [h5]; rfl

/-- A copy of numbers. -/
def NumsPost (w : World) (xs : List Int) (e : Ending) (w' : World) : Prop :=
  ∃ A c, e = .returned (.slice A xs.length c) ∧ Sees w' A (vK xs) ∧ xs.length ≤ c ∧ c ≤ 9223372036854775807 ∧ Below w.heap.size w w'
theorem k_sees {w : World} {base : Nat} {e : TypeId} {A : Option Addr} {n m c : Nat} {xs : List Value} (h : w.ownsRow base e 1 (.slice A m c) n xs) : Sees w A xs := by
  intro hne
  rcases h.2 with ⟨h1, h2⟩ | ⟨g, cap, cur, h1, h2, h3, h4⟩
  · have := h.1
    subst h2
    exact absurd (List.eq_nil_of_length_eq_zero (by simpa using this)) hne
  · injection h1 with h5
    refine ⟨⟨g, 0, none⟩, h5, fun j u hu => h.cells (g := g) ?_ j u hu⟩
    rw [h5]; rfl
set_option maxHeartbeats 1000000 in
set_option maxRecDepth 100000 in
theorem nClone_any (w : World) (A : Option Addr) (n c : Nat) (xs : List Int) (hn : xs.length = n) (hc : n ≤ 1099511627776) (hs : Sees w A (vK xs)) :
    Calls Try.prog 65 #[.slice A n c] w (NumsPost w xs) := by
  obtain ⟨i0, hi0, hz0, hz1, hz2⟩ := info_parts sint_info
  cases A with
  | none =>
    have hl : xs = [] := by
      cases xs with
      | nil => rfl
      | cons x l => obtain ⟨_, e, _⟩ := hs (by simp [vK]); cases e
    subst hl
    simp only [List.length_nil] at hn
    subst hn
    have kn := fun w : World => Lib.run_eql_slice_nil (P := Try.prog) w 30 3 none 0 c 0 0 Try.underlying30
    clear hs
    go_enter Try.func65, Try.ntmps65
    go_wp2
    go_ret
    exact ⟨none, 0, rfl, sees_nil _ _, Nat.le_refl _, by omega, Below.refl _ _⟩
  | some ad =>
    have kn := fun w : World => Lib.run_eql_slice_nil (P := Try.prog) w 30 3 (some ad) n c 0 0 Try.underlying30
    have HV : Hid (∀ j u, (vK xs)[j]? = some u → (w.alloc (.cells #[] 3)).cell? (ad.add j) = some u) := fun j u hu => by
      obtain ⟨a2, e, h⟩ := (hs.below ((Below.refl _ w).alloc (Nat.le_refl _) (.cells #[] 3))) (by intro h0; rw [h0] at hu; simp at hu)
      injection e with e
      subst e
      exact h j u hu
    have HL := Lib.hid (show (vK xs).length = n * 1 by rw [vK_len, hn, Nat.mul_one])
    have HO := Lib.hid (World.ownsRow_made (base := w.heap.size) (e := 3) (size := 1) w #[] 0 (Nat.le_refl _) (by unfold maxLen; omega) rfl)
    have HN := Lib.hid hn
    clear hs hn
    go_enter Try.func65, Try.ntmps65
    go_wp2_with (first | (at_builtin; refine wpList_append_own _ rfl _ _ 30 rfl w.heap.size 3 i0 (.int .i64 0) 1 8 Try.underlying30 hi0 hz0 hz1 hz2 rfl (by decide) _ 0 [] rfl HO.out ad n c (vK xs) rfl HL.out HV.out (vK_one xs) (by unfold maxLen; omega) (by omega) (by simp) ?_; intro v' w1 hown1 hgrow1 _; obtain ⟨A1, c1, rfl⟩ := own_form hown1; have HO1 := Lib.hid hown1; have HG := Lib.hid hgrow1; clear hown1 hgrow1))
    go_ret
    have ho := HO1.out
    rw [Nat.zero_add, List.nil_append] at ho
    have hg : (w.alloc (.cells #[] 3)).grownBy w1 (some w.heap.size) := HG.out
    have e := HN.out
    subst e
    exact ⟨A1, c1, rfl, k_sees ho, (own_cap ho).1, (own_cap ho).2, ((Below.refl _ w).alloc (Nat.le_refl _) _).grown hg (by simp) (fun k hk => by injection hk with hk; omega)⟩
set_option maxHeartbeats 1000000 in
theorem all_u (w : World) (p : Nat) (room : Int) (xs : List Int) (h : Stk w p room xs) (hb : xs.length < 1099511627776) :
    Calls Try.prog 28 #[.pointer (some ⟨p, 0, none⟩)] w (NumsPost w xs) := by
  obtain ⟨A, c, hc, hs, _, _⟩ := h.sees
  obtain ⟨n, hn⟩ : ∃ n, xs.length = n := ⟨_, rfl⟩
  rw [hn] at hc hb
  have HC := Lib.hid (nClone_any w A n c xs hn (by omega) hs)
  clear hs hn
  go_enter Try.func28, Try.ntmps28
  go_wp2_with fail
  refine HC.out.mono ?_
  rintro e w1 ⟨A1, c1, rfl, h1, h2, h3, h4⟩
  have H1 := Lib.hid h1
  clear h1
  go_wp2_with fail
  go_ret
  exact ⟨A1, c1, rfl, H1.out, h2, h3, h4⟩
end Go.Proofs.Ytoiplpmjocemfaa
