/- Names: tokens and the document's own All; the walk of NameParts. -/
import Derived.Test.YtncoldgkljnbeaaDoorNamk
import Derived.Test.YtncoldgkljnbeaaDoorRal
namespace Go.Proofs.YtncoldgkljnbeaaDoor
open Go.ChangeShapes Go.WideShapes Go.ChangeAt Go.RowKit
set_option linter.unusedVariables false
set_option maxRecDepth 100000

theorem whole_items (l : List UInt8) (q : Int → Bool) (f : Nat) : ∀ k, k ≤ l.length → l.length ≤ k + f → (endN l q f q k = l.length ↔ ∀ x ∈ items l f k, x.2.2 = 0 ∧ q x.1 = true) := by
  induction f with
  | zero =>
    intro k h1 h2
    rw [items_end l 0 k (by omega), endN]
    simp; omega
  | succ f ih =>
    intro k h1 h2
    rcases Nat.lt_or_ge k l.length with hlt | hge
    · by_cases h0 : (chrAt l k).2 = 0
      · rw [items_bad l f k hlt h0, endN_out _ _ (.inr (.inl h0))]
        constructor
        · intro h; omega
        · intro h
          have := (h (0, k, 5) (by simp)).1
          cases this
      · rw [items_good l f k hlt h0]
        have hroom := (chrAt_room l k hlt).1
        cases hq : q (chrAt l k).1 with
        | false =>
          rw [endN_out _ _ (.inr (.inr hq))]
          constructor
          · intro h; omega
          · intro h
            have := (h _ (List.mem_cons_self)).2
            simp only [] at this
            rw [hq] at this; cases this
        | true =>
          rw [endN_on (r := (chrAt l k).1) (m := (chrAt l k).2) f k hlt (Prod.ext_iff.2 ⟨Eq.refl _, Eq.refl _⟩) h0 hq, ih _ hroom (by omega)]
          constructor
          · intro h x hx
            rcases List.mem_cons.1 hx with rfl | hx
            · exact ⟨rfl, hq⟩
            · exact h x hx
          · intro h x hx
            exact h x (List.mem_cons_of_mem _ hx)
    · rw [items_end l _ k hge, endN_out _ _ (.inl hge)]
      constructor
      · intro _ x hx; cases hx
      · intro _; omega
/-- Are all the bytes characters, all of that class? -/
def allR (l : List UInt8) (q : Int → Bool) : Bool := (badS l).isNone && (runesS l).all q
theorem allR_whole {l : List UInt8} {q : Int → Bool} (h : l ≠ []) : wholeB l q q = allR l q := by
  rw [Bool.eq_iff_iff, whole_iff, whole_items l q l.length 0 (Nat.zero_le _) (by omega)]
  unfold allR badS runesS stepsS
  rw [Bool.and_eq_true, Option.isNone_iff_eq_none, Option.map_eq_none_iff, List.find?_eq_none, List.all_eq_true]
  constructor
  · rintro ⟨_, h1⟩
    refine ⟨fun x hx => ?_, fun r hr => ?_⟩
    · rw [(h1 x hx).1]; decide
    · obtain ⟨x, hx, rfl⟩ := List.mem_map.1 hr
      exact (h1 x hx).2
  · rintro ⟨h1, h2⟩
    refine ⟨h, fun x hx => ⟨?_, h2 _ (List.mem_map.2 ⟨x, hx, rfl⟩)⟩⟩
    have := h1 x hx
    simpa using this
theorem rall3_any (l : List UInt8) (A : Option Addr) (len cap : Nat) (w : World) (hlen : l.length = len) (hl : len ≤ 1000000) (hs : Sees w A (vB l)) :
    Calls Tryd.prog 21 #[.slice A len cap, .int .i64 3] w fun e w' => e = .returned (.bool (allR l charN)) ∧ Below w.heap.size w w' := by
  have hn : (runesS l).length ≤ 17592186044416 := by unfold runesS; rw [List.length_map]; have := stepsS_len l; omega
  unfold allR
  cases hb : badS l with
  | none =>
    have RG2 : ∀ w1, Below w.heap.size w w1 → Calls Tryd.prog 62 #[.slice A len cap] w1 fun e w' => ∃ A' c', e = .returned (.tuple #[.slice A' (runesS l).length c', .int .i64 (-1)]) ∧ Sees w' A' ((runesS l).map (Value.int .i64)) ∧ Below w.heap.size w w' :=
      fun w1 hB => (rrunes_any A len cap l hlen (by omega) w1 (hs.below hB)).mono fun e W' ⟨h1, _, hb'⟩ => by
        obtain ⟨v, he, ho⟩ := h1 hb
        obtain ⟨A', c', rfl⟩ := ownsRow_form ho
        exact ⟨A', c', he, sees_own ho, hB.trans (hb'.mono hB.size)⟩
    exact rallR_good A len cap _ _ charN w rfl hn 3 (fun x w1 => ris3_any x w1) RG2 w (Below.refl _ _)
  | some m =>
    have RB2 : ∀ w1, Below w.heap.size w w1 → Calls Tryd.prog 62 #[.slice A len cap] w1 fun e w' => e = .returned (.tuple #[.slice none 0 0, .int .i64 m]) ∧ Below w.heap.size w w' :=
      fun w1 hB => (rrunes_any A len cap l hlen (by omega) w1 (hs.below hB)).mono fun e W' ⟨_, h2, hb'⟩ => ⟨h2 m hb, hB.trans (hb'.mono hB.size)⟩
    exact rallR_bad A len cap w 3 m RB2 w (Below.refl _ _)

/-- What Part tells, for the law. -/
theorem partV_tup (l : List UInt8) : ∃ (p q : List UInt8) (e : Int), partV l = .tuple #[strV p, strV q, .int .i64 e] ∧
    (e ≠ 0 ∨ (e = 0 ∧ p = [] ∧ q = l) ∨ (e = 0 ∧ p ≠ [] ∧ p ++ 58 :: q = l)) := by
  unfold partV
  split
  · exact ⟨[], [], 7, rfl, .inl (by omega)⟩
  · split
    · exact ⟨[], l, 0, rfl, .inr (.inl ⟨rfl, rfl, rfl⟩)⟩
    · next hc =>
      rcases colI_cases l with ⟨h, _⟩ | ⟨i, h, hi, _⟩
      · omega
      · rw [h, Int.toNat_natCast]
        split
        · exact ⟨[], [], 9, rfl, .inl (by omega)⟩
        · next h2 =>
          obtain ⟨hil, hv⟩ := List.getElem?_eq_some_iff.1 hi
          refine ⟨_, _, 0, rfl, .inr (.inr ⟨rfl, fun e => ?_, ?_⟩)⟩
          · have h5 : (l.take i).length = i := by simp; omega
            rw [e] at h5
            exact h2 (.inl h5.symm)
          · rw [← hv, ← List.drop_eq_getElem_cons hil, List.take_append_drop]

set_option maxHeartbeats 4000000 in
theorem nameParts_any (l : List UInt8) (w : World) (hl : l.length ≤ maxLen) (ht : TabN w) :
    Calls Tryd.prog 4 #[strV l] w fun e w' => e = .returned (.bool true) ∧ Below w.heap.size w w' := by
  unfold maxLen at hl
  have HL := Lib.hid (fun (w' : World) (hb : Below w.heap.size w w') => live05_any w' (ht.below hb))
  by_cases hbig : 300 < l.length
  · go_enter Tryd.func4, Tryd.ntmps4
    go_wp2_with fail
    refine (HL.out w (Below.refl _ _)).mono ?_
    rintro e w1 ⟨rfl, hb⟩
    go_wp2_with fail
    go_ret
    exact ⟨rfl, hb⟩
  · have hlm : l.length ≤ 1000000 := by omega
    have H1 := fun (w' : World) (hb : Below w.heap.size w w') => isName_any l w' hlm (ht.below hb)
    have H2 := fun (w' : World) (hb : Below w.heap.size w w') => isPlain_any l w' hlm (ht.below hb)
    have H3 := fun (w' : World) (hb : Below w.heap.size w w') => isToken_any l w' hlm (ht.below hb)
    have H4 := fun (w' : World) => risB_any l w' false hlm
    have H5 := fun (w' : World) => risB_any l w' true hlm
    have H6 := Lib.hid (fun (w' : World) (A : Option Addr) (cap : Nat) (hs : Sees w' A (vB l)) => rall3_any l A l.length cap w' rfl hlm hs)
    have H7 := fun (w' : World) (hb : Below w.heap.size w w') => part_any l w' hlm (ht.below hb)
    have H8 := fun (w' : World) => rpart_any l w' hlm
    rw [show kindP false startN = startN from rfl, show kindP false charN = charN from rfl] at H4
    rw [show kindP true startN = plainP startN from rfl, show kindP true charN = plainP charN from rfl] at H5
    obtain ⟨b1, e1⟩ : ∃ b, wholeB l startN charN = b := ⟨_, rfl⟩
    obtain ⟨b2, e2⟩ : ∃ b, wholeB l (plainP startN) (plainP charN) = b := ⟨_, rfl⟩
    rw [e1] at H1 H4
    rw [e2] at H2 H5
    obtain ⟨P, Q, x, hp, hx⟩ := partV_tup l
    rw [hp] at H7 H8
    have K1 := Lib.hid H1; have K2 := Lib.hid H2; have K4 := Lib.hid H4; have K5 := Lib.hid H5; have K7 := Lib.hid H7; have K8 := Lib.hid H8
    have HX := Lib.hid hx
    have kc := fun W => run_bytes_of_string (P := Tryd.prog) W 9 22 5 ⟨l.toArray⟩ Tryd.underlying9 Tryd.underlying22 Tryd.underlying5
    clear H1 H2 H4 H5 H7 H8 e1 e2 hp hx
    by_cases h0 : l = []
    · have t3 : wholeB l charN charN = false := by rw [h0]; rfl
      rw [t3] at H3
      have K3 := Lib.hid H3
      have hie : l.isEmpty = true := by rw [h0]; rfl
      clear H3 t3 h0
      go_enter Tryd.func4, Tryd.ntmps4
      go_wp2_with fail
      refine (K1.out w (Below.refl _ _)).mono ?_
      rintro e w1 ⟨rfl, hb1⟩
      go_wp2_with fail
      refine (K4.out w1).mono ?_
      rintro e w2 ⟨rfl, b2⟩
      have hb2 := hb1.trans (b2.mono hb1.size)
      go_wp2_with fail
      refine (K2.out w2 hb2).mono ?_
      rintro e w3 ⟨rfl, b3⟩
      have hb3 := hb2.trans (b3.mono hb2.size)
      go_wp2_with fail
      refine (K5.out w3).mono ?_
      rintro e w4 ⟨rfl, b4⟩
      have hb4 := hb3.trans (b4.mono hb3.size)
      go_wp2_with fail
      refine (K3.out w4 hb4).mono ?_
      rintro e w5 ⟨rfl, b5⟩
      have hb5 := hb4.trans (b5.mono hb4.size)
      go_wp2_with fail
      refine (K7.out w5 hb5).mono ?_
      rintro e w7 ⟨rfl, b7⟩
      have hb7 := hb5.trans (b7.mono hb5.size)
      go_wp2_with fail
      refine (K8.out w7).mono ?_
      rintro e w8 ⟨rfl, b8⟩
      have hb8 := hb7.trans (b8.mono hb7.size)
      rcases HX.out with hx | ⟨rfl, rfl, rfl⟩ | ⟨rfl, hp, hq⟩
      · go_wp2_with fail
        refine (HL.out w8 hb8).mono ?_
        rintro e w9 ⟨rfl, b9⟩
        go_wp2_with fail
        go_ret
        exact ⟨rfl, hb8.trans (b9.mono hb8.size)⟩
      · go_wp2_with fail
        refine (HL.out w8 hb8).mono ?_
        rintro e w9 ⟨rfl, b9⟩
        go_wp2_with fail
        go_ret
        exact ⟨rfl, hb8.trans (b9.mono hb8.size)⟩
      · exfalso
        rw [List.isEmpty_iff] at hie
        rw [hie] at hq
        exact hp (List.append_eq_nil_iff.1 hq).1
    · rw [allR_whole h0] at H3
      have hie : l.isEmpty = false := List.isEmpty_eq_false_iff.2 h0
      obtain ⟨r, hr⟩ : ∃ r, allR l charN = r := ⟨_, rfl⟩
      rw [hr] at H3 H6
      have K3 := Lib.hid H3
      clear H3 h0 hr
      go_enter Tryd.func4, Tryd.ntmps4
      go_wp2_with fail
      refine (K1.out w (Below.refl _ _)).mono ?_
      rintro e w1 ⟨rfl, hb1⟩
      go_wp2_with fail
      refine (K4.out w1).mono ?_
      rintro e w2 ⟨rfl, b2⟩
      have hb2 := hb1.trans (b2.mono hb1.size)
      go_wp2_with fail
      refine (K2.out w2 hb2).mono ?_
      rintro e w3 ⟨rfl, b3⟩
      have hb3 := hb2.trans (b3.mono hb2.size)
      go_wp2_with fail
      refine (K5.out w3).mono ?_
      rintro e w4 ⟨rfl, b4⟩
      have hb4 := hb3.trans (b4.mono hb3.size)
      go_wp2_with fail
      refine (K3.out w4 hb4).mono ?_
      rintro e w5 ⟨rfl, b5⟩
      have hb5 := hb4.trans (b5.mono hb4.size)
      have hB2 := fun o => (hb5.alloc hb5.size o).drew
      go_wp2_with fail
      refine (H6.out _ _ _ (made_sees _ l _ _ _ _ rfl)).mono ?_
      rintro e w6 ⟨rfl, b6⟩
      have hb6 := (hB2 _).trans (b6.mono (hB2 _).size)
      go_wp2_with fail
      refine (K7.out w6 hb6).mono ?_
      rintro e w7 ⟨rfl, b7⟩
      have hb7 := hb6.trans (b7.mono hb6.size)
      go_wp2_with fail
      refine (K8.out w7).mono ?_
      rintro e w8 ⟨rfl, b8⟩
      have hb8 := hb7.trans (b8.mono hb7.size)
      rcases HX.out with hx | ⟨rfl, rfl, rfl⟩ | ⟨rfl, hp, hq⟩
      · go_wp2_with fail
        refine (HL.out w8 hb8).mono ?_
        rintro e w9 ⟨rfl, b9⟩
        go_wp2_with fail
        go_ret
        exact ⟨rfl, hb8.trans (b9.mono hb8.size)⟩
      · go_wp2_with fail
        refine (HL.out w8 hb8).mono ?_
        rintro e w9 ⟨rfl, b9⟩
        go_wp2_with fail
        go_ret
        exact ⟨rfl, hb8.trans (b9.mono hb8.size)⟩
      · have hpe : P.isEmpty = false := List.isEmpty_eq_false_iff.2 hp
        have hlen : P.length + (Q.length + 1) ≤ 300 := by
          have := congrArg List.length hq
          rw [List.length_append, List.length_cons] at this
          omega
        have hcat : ((⟨P.toArray⟩ : ByteArray) ++ (⟨#[58]⟩ : ByteArray) ++ (⟨Q.toArray⟩ : ByteArray)).toList = l := by
          rw [Lib.toList_data, ByteArray.data_append, ByteArray.data_append]
          simpa using hq
        go_wp2_with fail
        refine (HL.out w8 hb8).mono ?_
        rintro e w9 ⟨rfl, b9⟩
        go_wp2_with fail
        go_ret
        exact ⟨rfl, hb8.trans (b9.mono hb8.size)⟩
end Go.Proofs.YtncoldgkljnbeaaDoor
