/- The page's example of layer 2. -/
import Derived.Test.YtpgpniemkmiljaaUtfJ
import Derived.Laws.IdiomStrings
import Derived.Lib.BufferRead
namespace Go.Proofs.Ytpgpniemkmiljaa
open Go.ChangeShapes Go.WideShapes Go.ChangeAt Go.RowKit
set_option linter.unusedVariables false

theorem conv_sees (w : World) (A : Option Addr) (n c : Nat) (l : List UInt8) (hl : l.length = n) (hs : Sees w A (vB l)) :
    (convert 22 9 (.slice A n c)).run Try.prog w = .ok (.string ⟨l.toArray⟩) w := by
  subst hl
  rcases A with _ | a
  · have h0 : l = [] := by
      cases l with
      | nil => rfl
      | cons x l =>
        obtain ⟨ad, h, _⟩ := hs (by unfold vB; simp)
        cases h
    subst h0
    exact Lib.run_convert_nil_bytes w _ _ 5 c Try.underlying22 Try.underlying5 Try.underlying9
  · refine run_convert_bytes_back w _ _ 5 a c l Try.underlying22 Try.underlying5 Try.underlying9 (fun j hj => ?_)
    obtain ⟨ad, e, hc⟩ := hs.byte (k := j) hj
    obtain rfl : a = ad := by injection e
    rw [hc]
    unfold byteAt
    rw [List.getElem?_eq_getElem hj]; rfl
theorem sees_own {w : World} {base : Nat} {e : TypeId} {A : Option Addr} {n m c : Nat} {xs : List Value} (h : w.ownsRow base e 1 (.slice A m c) n xs) : Sees w A xs := by
  intro hne
  rcases h.2 with ⟨h1, h2⟩ | ⟨g, cap, cur, h1, h2, h3, h4⟩
  · have := h.1
    subst h2
    exact absurd (List.eq_nil_of_length_eq_zero (by simpa using this)) hne
  · injection h1 with h5
    refine ⟨⟨g, 0, none⟩, h5, fun j u hu => h.cells (g := g) ?_ j u hu⟩
    rw [h5]; rfl
theorem sees_new (w : World) (l : List Value) (t : TypeId) : Sees (w.alloc (.cells l.toArray t)) (some ⟨w.heap.size, 0, none⟩) l :=
  fun _ => ⟨_, rfl, cells_new w l t⟩

set_option maxRecDepth 100000 in
set_option maxHeartbeats 1000000 in
theorem live02_any (w : World) :
    Calls Try.prog 16 #[] w fun e w' => e = .returned (.bool true) ∧ Below w.heap.size w w' := by
  have h1 : ∀ w : World, Calls Try.prog 13 #[.int .i64 228] w fun e w' => ∃ A c, e = .returned (.tuple #[.slice A 2 c, .int .i64 0]) ∧ Sees w' A (vB [195, 164]) ∧ Below w.heap.size w w' := fun w =>
    (encode_good 228 w (by decide +kernel)).mono fun e w' ⟨v, he, ho, hb⟩ => by
      obtain ⟨A, c, rfl⟩ := ownsRow_form ho
      exact ⟨A, c, he, sees_own ho, hb⟩
  have h2 : ∀ w : World, Calls Try.prog 17 #[.slice (some ⟨w.heap.size, 0, none⟩) 2 2, .int .i64 0] (w.alloc (.cells #[.int .u8 192, .int .u8 128] 5)) fun e w' => e = .returned (.tuple #[.int .i64 0, .int .i64 0, .int .i64 5]) ∧ w.alloc (.cells #[.int .u8 192, .int .u8 128] 5) = w' := fun w =>
    decode_err [192, 128] _ 2 2 0 _ rfl (by omega) (by omega) (by omega) (sees_new w (vB [192, 128]) _) (by kernel_rfl)
  have h3 : ∀ (w : World) (b : Nat), w.heap.size = b → Calls Try.prog 69 #[.slice (some ⟨b, 0, none⟩) 3 3] (w.alloc (.cells #[.int .u8 226, .int .u8 130, .int .u8 172] 5)) fun e w' => e = .returned (.tuple #[.int .i64 1, .int .i64 0]) ∧
      Below (w.heap.size + 1) (w.alloc (.cells #[.int .u8 226, .int .u8 130, .int .u8 172] 5)) w' := fun w b hwb => by
    subst hwb
    refine (len_any (some ⟨w.heap.size, 0, none⟩) 3 3 [226, 130, 172] rfl (by omega) (by omega) _ (sees_new w (vB [226, 130, 172]) _)).mono fun e w' ⟨he, hb⟩ => ⟨by rw [he]; exact congrArg Ending.returned (by kernel_rfl), ?_⟩
    rw [World.size_alloc] at hb
    exact hb
  have H1 := Lib.hid h1
  have H2 := Lib.hid h2
  have H3 := Lib.hid h3
  clear h1 h2 h3
  go_enter Try.func16, Try.ntmps16
  go_wp2_with (first
    | (go_at_call 13; refine (H1.out _).mono ?_; rintro e w1 ⟨A1, c1, rfl, hs1, hb1⟩)
    | (go_at_call 17; refine (H2.out _).mono ?_; rintro e w2 ⟨rfl, rfl⟩)
    | (go_at_call 69; refine (H3.out _ _ (by simp)).mono ?_; rintro e w3 ⟨rfl, hb3⟩; have hB3 : Below w1.heap.size w1 w3 := ((((Below.refl _ w1).alloc (Nat.le_refl _) _).alloc (by simp) _).trans (hb3.mono (by simp; omega))); have kc := conv_sees w3 A1 2 c1 [195, 164] rfl (hs1.below hB3)))
  go_ret
  exact ⟨rfl, hb1.trans (hB3.mono hb1.size)⟩
end Go.Proofs.Ytpgpniemkmiljaa
