/- A copy of attributes. -/
import Derived.Test.YtoiplpmjocemfaaJna
namespace Go.Proofs.Ytoiplpmjocemfaa
open Go.ChangeShapes Go.WideShapes Go.ChangeAt Go.RowKit
set_option linter.unusedVariables false
set_option maxRecDepth 100000

theorem attInfo : (Try.prog.info? 113).map (fun i => (i.zero, i.size, i.bytes)) = some (some (.agg #[.string ⟨#[]⟩, .string ⟨#[]⟩, .string ⟨#[]⟩]), 3, 48) := by kernel_rfl
theorem attsV_one (l : List Att) : ∀ u ∈ attsV l, u.oneCell' = true := by
  intro u hu
  unfold attsV at hu
  rw [List.mem_flatMap] at hu
  obtain ⟨e, _, hu⟩ := hu
  simp only [aC, List.mem_cons, List.not_mem_nil, or_false] at hu
  rcases hu with rfl | rfl | rfl <;> rfl
def AttsPost (w : World) (xs : List Att) (e : Ending) (w' : World) : Prop :=
  ∃ A c, e = .returned (.slice A xs.length c) ∧ w'.ownsRow w.heap.size 113 3 (.slice A xs.length c) xs.length (attsV xs) ∧ Below w.heap.size w w'
set_option maxHeartbeats 1000000 in
theorem aClone_any (w : World) (A : Option Addr) (n c : Nat) (xs : List Att) (hn : xs.length = n) (hn9 : n ≤ 1000000) (hs : Sees w A (attsV xs)) :
    Calls Try.prog 71 #[.slice A n c] w (AttsPost w xs) := by
  obtain ⟨i0, hi0, hz0, hz1, hz2⟩ := info_parts attInfo
  cases A with
  | none =>
    have hl : xs = [] := by
      cases xs with
      | nil => rfl
      | cons x l => obtain ⟨_, e, _⟩ := hs (by simp [attsV, aC]); cases e
    subst hl
    simp only [List.length_nil] at hn
    subst hn
    have kn := fun w : World => Lib.run_eql_slice_nil (P := Try.prog) w 74 113 none 0 c 0 0 Try.underlying74
    clear hs
    go_enter Try.func71, Try.ntmps71
    go_wp2
    go_ret
    exact ⟨none, 0, rfl, World.ownsRow_nil _ _ _ _, Below.refl _ _⟩
  | some ad =>
    have kn := fun w : World => Lib.run_eql_slice_nil (P := Try.prog) w 74 113 (some ad) n c 0 0 Try.underlying74
    have HV : Hid (∀ j u, (attsV xs)[j]? = some u → (w.alloc (.cells #[] 113)).cell? (ad.add j) = some u) := fun j u hu => by
      obtain ⟨a2, e, h⟩ := (hs.below ((Below.refl _ w).alloc (Nat.le_refl _) (.cells #[] 113))) (by intro h0; rw [h0] at hu; simp at hu)
      injection e with e
      subst e
      exact h j u hu
    have HL := Lib.hid (show (attsV xs).length = n * 3 by rw [attsV_len, hn])
    have HO := Lib.hid (World.ownsRow_made (base := w.heap.size) (e := 113) (size := 3) w #[] 0 (Nat.le_refl _) (by unfold maxLen; omega) rfl)
    have HN := Lib.hid hn
    clear hs hn
    go_enter Try.func71, Try.ntmps71
    go_wp2_with (first | (at_builtin; refine wpList_append_own _ rfl _ _ 74 rfl w.heap.size 113 i0 (.agg #[.string ⟨#[]⟩, .string ⟨#[]⟩, .string ⟨#[]⟩]) 3 48 Try.underlying74 hi0 hz0 hz1 hz2 rfl (by decide) _ 0 [] rfl HO.out ad n c (attsV xs) rfl HL.out HV.out (attsV_one xs) (by unfold maxLen; omega) (by omega) (by simp) ?_; intro v' w1 hown1 hgrow1 _; obtain ⟨A1, c1, rfl⟩ := own_form2 hown1; have HO1 := Lib.hid hown1; have HG := Lib.hid hgrow1; clear hown1 hgrow1))
    go_ret
    have ho := HO1.out
    rw [Nat.zero_add, List.nil_append] at ho
    have hg : (w.alloc (.cells #[] 113)).grownBy w1 (some w.heap.size) := HG.out
    have e := HN.out
    subst e
    exact ⟨A1, c1, rfl, ho, ((Below.refl _ w).alloc (Nat.le_refl _) _).grown hg (by simp) (fun k hk => by injection hk with hk; omega)⟩
end Go.Proofs.Ytoiplpmjocemfaa
