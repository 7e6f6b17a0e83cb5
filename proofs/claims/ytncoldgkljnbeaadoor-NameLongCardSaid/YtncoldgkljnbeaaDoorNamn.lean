/- Names of many bytes: the walk of NameLong. -/
import Derived.Test.YtncoldgkljnbeaaDoorNamk
import Derived.OwnWalk
import Derived.ArgAppend
namespace Go.Proofs.YtncoldgkljnbeaaDoor
open Go.ChangeShapes Go.WideShapes Go.ChangeAt Go.RowKit
set_option linter.unusedVariables false
set_option maxRecDepth 100000

theorem u8_infoN : (Tryd.prog.info? 5).map (fun i => (i.zero, i.size, i.bytes)) = some (some (.int .u8 0), 1, 1) := by kernel_rfl
def rowA (k : Nat) : List UInt8 := List.replicate k 97
theorem rowA_len (k : Nat) : (rowA k).length = k := List.length_replicate
theorem rowA_snoc (k : Nat) : rowA (k + 1) = rowA k ++ [97] := by unfold rowA; rw [List.replicate_succ']
theorem long_cells (w : World) (l : List Value) (t : TypeId) : ∀ j u, l[j]? = some u → (w.alloc (.cells l.toArray t)).cell? ((⟨w.heap.size, 0, none⟩ : Addr).add j) = some u := by
  intro j u h
  have e : (⟨w.heap.size, 0, none⟩ : Addr).add j = ⟨w.heap.size, j, none⟩ := by
    unfold Addr.add; split
    · next h0 => rw [h0]
    · simp
  rw [e]
  simp [World.cell?_alloc_new, h]

theorem byteA (k M : Nat) (t : List UInt8) (h : k < M) : byteAt (rowA M ++ t) k = 97 := by
  unfold byteAt rowA
  rw [List.getElem?_append_left (by simp; exact h), List.getElem?_replicate, if_pos h]; rfl
theorem chr_low {l : List UInt8} {k b : Nat} (h : byteAt l k = b) (hb : b < 128) : chrAt l k = ((b : Int), 1) := by
  unfold chrAt
  simp only []
  rw [rawS_1 (by omega), h]
  have e1 : isR (b : Int) = true := by unfold isR; simp; omega
  have e2 : encLen ((b : Int)).toNat = 1 := by unfold encLen; rw [Int.toNat_natCast, if_pos hb]
  simp only [e1, e2]
  simp
theorem endA (M : Nat) (t : List UInt8) (q : Int → Bool) (hq : q 97 = true) (he : t = [] ∨ (t = [61] ∧ q 61 = false)) (f : Nat) : ∀ (k : Nat) (p : Int → Bool), k ≤ M → M ≤ k + f → p 97 = true → (t = [] ∨ p 61 = false) → endN (rowA M ++ t) q f p k = M := by
  induction f with
  | zero => intro k p h1 h2 _ _; rw [endN]; omega
  | succ f ih =>
    intro k p h1 h2 hp hpe
    rcases Nat.lt_or_ge k M with hlt | hge
    · rw [endN_on (r := ((97 : Nat) : Int)) (m := 1) f k (by rw [List.length_append, rowA_len]; omega) (chr_low (byteA k M t hlt) (by omega)) (by omega) hp]
      exact ih (k + 1) q (by omega) (by omega) hq (by rcases he with he | he; exact .inl he; exact .inr he.2)
    · obtain rfl : k = M := by omega
      rcases he with rfl | ⟨rfl, _⟩
      · exact endN_out _ _ (.inl (by rw [List.append_nil, rowA_len]; exact Nat.le_refl _))
      · have hb : byteAt (rowA k ++ [61]) k = 61 := by
          unfold byteAt
          rw [List.getElem?_append_right (by rw [rowA_len]; exact Nat.le_refl _), rowA_len, Nat.sub_self]; rfl
        refine endN_out _ _ (.inr (.inr ?_))
        rw [chr_low hb (by omega)]
        rcases hpe with h | h
        · cases h
        · exact h
theorem s97 : startN 97 = true := by decide
theorem c97 : charN 97 = true := by decide
theorem s61 : startN 61 = false := by decide
theorem c61 : charN 61 = false := by decide
theorem longEnd (M : Nat) : endN (rowA M ++ [61]) charN (rowA M ++ [61]).length startN 0 = M := endA M [61] charN c97 (.inr ⟨rfl, c61⟩) _ 0 startN (Nat.zero_le _) (by rw [List.length_append, rowA_len]; omega) s97 (.inr s61)
theorem longWhole (M : Nat) (h : 0 < M) : wholeB (rowA M) startN charN = true := by
  refine whole_iff.2 ⟨fun e => ?_, ?_⟩
  · have := rowA_len M; rw [e] at this; simp at this; omega
  · have := endA M [] charN c97 (.inl rfl) (rowA M).length 0 startN (Nat.zero_le _) (by rw [rowA_len]; omega) s97 (.inl rfl)
    rw [List.append_nil] at this
    rw [this, rowA_len]
theorem longV (M : Nat) (h : 0 < M) (hl : M ≤ 1024) : readV (rowA M ++ [61]) 0 startN charN = .tuple #[strV (rowA M), .int .i64 M, .int .i64 0] := by
  have := readV_ok (l := rowA M ++ [61]) (k := 0) (z := M) (p := startN) (q := charN) (Nat.zero_le _) (longEnd M) h (by omega)
  rw [List.drop_zero, Nat.sub_zero, List.take_append_of_le_length (by rw [rowA_len]; exact Nat.le_refl _), List.take_of_length_le (by rw [rowA_len]; exact Nat.le_refl _)] at this
  exact this
theorem longV2 (M : Nat) (hl : 1024 < M) : readV (rowA M ++ [61]) 0 startN charN = .tuple #[.string ⟨#[]⟩, .int .i64 0, .int .i64 11] :=
  readV_long (k := 0) (Nat.zero_le _) (longEnd M) (by omega) (by omega)

theorem own_form {W : World} {base : Nat} {e : TypeId} {v : Value} {k : Nat} {xs : List Value} (h : W.ownsRow base e 1 v (k + 1) xs) : ∃ g cap, v = .slice (some ⟨g, 0, none⟩) (k + 1) cap ∧ k + 1 ≤ cap ∧ cap ≤ maxLen := by
  rcases h.2 with ⟨_, h0⟩ | ⟨g, cap, _, rfl, _, _, h1, h2, _⟩
  · omega
  · exact ⟨g, cap, rfl, h1, h2⟩

set_option maxHeartbeats 4000000 in
theorem nameLong_any (a : Nat) (w : World) (ha : a < 65536) (ht : TabN w) :
    Calls Tryd.prog 5 #[.int .u16 a] w fun e w' => e = .returned (.bool true) ∧ Below w.heap.size w w' := by
  have HL := Lib.hid (fun (w' : World) (hb : Below w.heap.size w w') => live05_any w' (ht.below hb))
  obtain ⟨i0, hi0, hz0, hz1, hz2⟩ := info_parts u8_infoN
  go_enter Tryd.func5, Tryd.ntmps5
  go_wp2_with fail
  obtain ⟨M, hM⟩ : ∃ M : Nat, (1000 + (a : Int) % 50) = M := ⟨(1000 + (a : Int) % 50).toNat, by omega⟩
  have hM1 : 1000 ≤ M := by omega
  have hM2 : M ≤ 1049 := by omega
  rw [hM]
  clear hM
  have HO0 := World.ownsRow_made (base := w.heap.size) (e := 5) (size := 1) w #[] 0 (Nat.le_refl _) (by unfold maxLen; omega) rfl
  go_loopw [4, 5] (fun v i wr => ∃ k : Nat, k ≤ M ∧ i = .int .i64 k ∧ wr.ownsRow w.heap.size 5 1 v k (vB (rowA k)) ∧ Below w.heap.size w wr) (fun _ i _ => M - (intOf i).toNat)
  case atStart => exact ⟨0, Nat.zero_le _, rfl, HO0, (Below.refl _ _).alloc (Nat.le_refl _) _⟩
  case round =>
    obtain ⟨k, hk, rfl, hown, hB⟩ := hrel
    have hsW := hB.size
    have HO := Lib.hid hown
    by_cases hlt : k < M
    · obtain ⟨A, c, rfl⟩ := ownsRow_form hown
      clear hown
      go_wp2_with (first | (at_builtin; refine wpList_append_own _ rfl _ _ 22 rfl w.heap.size 5 i0 (.int .u8 0) 1 1 Tryd.underlying22 hi0 hz0 hz1 hz2 rfl (by decide) (.slice A k c) k (vB (rowA k)) rfl (HO.out.alloc _) ⟨wr.heap.size, 0, none⟩ 1 1 (vB [97]) rfl rfl (long_cells wr (vB [97]) _) (vB_one [97]) (by unfold maxLen; omega) (by omega) (by simp; omega) ?_; intro v' w2 hown2 hgrow2 _))
      go_roundw
      case rel => exact ⟨k + 1, by omega, by go_num, by rw [rowA_snoc, vB_append]; exact hown2, (hB.alloc hsW _).grown hgrow2 (by simp; omega) (fun j hj => (HO.out.lt j hj).1)⟩
      case measure => simp [intOf]; omega
    · obtain rfl : k = M := by omega
      rcases hown.2 with ⟨_, h0⟩ | ⟨g, cap, cur, rfl, hgb, hgc, hcap1, hcap2, _⟩
      · omega
      · have HS := sees_own hown
        have hgl := (Array.getElem?_eq_some_iff.1 hgc).1
        have HH : ∀ o b, some (⟨g, 0, none⟩ : Addr) = some b → ∀ j u, (vB (rowA k))[j]? = some u → (wr.alloc o).cell? (b.add j) = some u := by
          intro o b hb j u hu
          injection hb with hb
          subst hb
          obtain ⟨ad, e, hc⟩ := (HS.below ((Below.refl wr.heap.size wr).alloc (Nat.le_refl _) o)) (by intro e; rw [e] at hu; simp at hu)
          injection e with e
          subst e
          exact hc j u hu
        have HHH := Lib.hid HH
        have HSS := Lib.hid HS
        clear HH HS hown hgc
        by_cases hlong : 1024 < k
        · have HN := fun (w' : World) (A : Option Addr) (c : Nat) (hb : Below w.heap.size w w') (hs : Sees w' A (vB (rowA k ++ [61]))) (h1 : k + 1 ≤ c) (h2 : c ≤ maxLen) =>
            name_any (rowA k ++ [61]) A (k + 1) c 0 w' (by rw [List.length_append, rowA_len]; rfl) h1 (by unfold maxLen at h2; omega) ⟨by omega, by omega⟩ hs (ht.below hb)
          rw [longV2 k hlong] at HN
          have HN := Lib.hid HN
          have HI := fun (w' : World) (hb : Below w.heap.size w w') => isName_any (rowA k) w' (by rw [rowA_len]; omega) (ht.below hb)
          rw [longWhole k (by omega)] at HI
          have HI := Lib.hid HI
          by_cases hfit : k + 1 ≤ cap
          · go_wp2_with (first | (at_builtin; refine wpList_append_fits _ rfl _ _ 22 rfl w.heap.size 5 i0 1 Tryd.underlying22 hi0 hz1 g k cap (vB (rowA k)) rfl (HO.out.alloc _) ⟨wr.heap.size, 0, none⟩ 1 1 (vB [61]) rfl rfl (long_cells wr (vB [61]) _) (vB_one [61]) hfit ?_; intro w2 hown2 hgrow2))
            have hb2 : Below w.heap.size w w2 := (hB.alloc hsW _).grown hgrow2 (by simp; omega) (fun j hj => by injection hj with hj; omega)
            rw [← vB_append] at hown2
            have hs2 := sees_own hown2
            have hsb : Sees w2 (some ⟨g, 0, none⟩) (vB (rowA k)) := by
              have h7 := hs2.take k
              rw [← vB_take, List.take_append_of_le_length (by rw [rowA_len]; exact Nat.le_refl _), List.take_of_length_le (by rw [rowA_len]; exact Nat.le_refl _)] at h7
              exact h7
            refine (HN.out w2 _ cap hb2 hs2 hfit hcap2).mono ?_
            rintro e w3 ⟨rfl, b3⟩
            have hb3 := hb2.trans (b3.mono hb2.size)
            have kc := conv_sees w3 (some ⟨g, 0, none⟩) k cap (rowA k) (rowA_len k) (hsb.below b3)
            clear hown2 hgrow2 hs2 hsb
            go_wp2_with fail
            refine (HI.out w3 hb3).mono ?_
            rintro e w4 ⟨rfl, b4⟩
            have hb4 := hb3.trans (b4.mono hb3.size)
            go_wp2_with fail
            refine (HL.out w4 hb4).mono ?_
            rintro e w5 ⟨rfl, b5⟩
            go_wp2_with fail
            go_ret
            exact ⟨rfl, hb4.trans (b5.mono hb4.size)⟩
          · go_wp2_with (first | (at_builtin; refine wpList_append_grows _ rfl _ _ 22 rfl 5 i0 (.int .u8 0) 1 1 Tryd.underlying22 hi0 hz0 hz1 hz2 rfl (by decide) (some ⟨g, 0, none⟩) k cap (vB (rowA k)) rfl (fun h => by cases h) (by rw [vB_len, rowA_len, Nat.mul_one]) (HHH.out _) ⟨wr.heap.size, 0, none⟩ 1 1 (vB [61]) rfl rfl (long_cells wr (vB [61]) _) (vB_one [61]) (by omega) (by unfold maxLen; omega) (by omega) ?_; intro v' w2 hown2 hgrow2; obtain ⟨g', cap', rfl, h5, h6⟩ := own_form hown2))
            have hb2 : Below w.heap.size w w2 := (hB.alloc hsW _).grown hgrow2 (by simp; omega) (fun j hj => by cases hj)
            rw [← vB_append] at hown2
            have hs2 := sees_own hown2
            have hsb : Sees w2 (some ⟨g, 0, none⟩) (vB (rowA k)) := (HSS.out.below ((Below.refl _ _).alloc (Nat.le_refl _) _)).below ((Below.refl _ _).grown hgrow2 (Nat.le_refl _) (fun j hj => by cases hj))
            refine (HN.out w2 _ cap' hb2 hs2 h5 h6).mono ?_
            rintro e w3 ⟨rfl, b3⟩
            have hb3 := hb2.trans (b3.mono hb2.size)
            have kc := conv_sees w3 (some ⟨g, 0, none⟩) k cap (rowA k) (rowA_len k) (hsb.below b3)
            clear hown2 hgrow2 hs2 hsb
            go_wp2_with fail
            refine (HI.out w3 hb3).mono ?_
            rintro e w4 ⟨rfl, b4⟩
            have hb4 := hb3.trans (b4.mono hb3.size)
            go_wp2_with fail
            refine (HL.out w4 hb4).mono ?_
            rintro e w5 ⟨rfl, b5⟩
            go_wp2_with fail
            go_ret
            exact ⟨rfl, hb4.trans (b5.mono hb4.size)⟩
        · have HN := fun (w' : World) (A : Option Addr) (c : Nat) (hb : Below w.heap.size w w') (hs : Sees w' A (vB (rowA k ++ [61]))) (h1 : k + 1 ≤ c) (h2 : c ≤ maxLen) =>
            name_any (rowA k ++ [61]) A (k + 1) c 0 w' (by rw [List.length_append, rowA_len]; rfl) h1 (by unfold maxLen at h2; omega) ⟨by omega, by omega⟩ hs (ht.below hb)
          rw [longV k (by omega) (by omega)] at HN
          have HN := Lib.hid HN
          by_cases hfit : k + 1 ≤ cap
          · go_wp2_with (first | (at_builtin; refine wpList_append_fits _ rfl _ _ 22 rfl w.heap.size 5 i0 1 Tryd.underlying22 hi0 hz1 g k cap (vB (rowA k)) rfl (HO.out.alloc _) ⟨wr.heap.size, 0, none⟩ 1 1 (vB [61]) rfl rfl (long_cells wr (vB [61]) _) (vB_one [61]) hfit ?_; intro w2 hown2 hgrow2))
            have hb2 : Below w.heap.size w w2 := (hB.alloc hsW _).grown hgrow2 (by simp; omega) (fun j hj => by injection hj with hj; omega)
            rw [← vB_append] at hown2
            have hs2 := sees_own hown2
            have hsb : Sees w2 (some ⟨g, 0, none⟩) (vB (rowA k)) := by
              have h7 := hs2.take k
              rw [← vB_take, List.take_append_of_le_length (by rw [rowA_len]; exact Nat.le_refl _), List.take_of_length_le (by rw [rowA_len]; exact Nat.le_refl _)] at h7
              exact h7
            refine (HN.out w2 _ cap hb2 hs2 hfit hcap2).mono ?_
            rintro e w3 ⟨rfl, b3⟩
            have hb3 := hb2.trans (b3.mono hb2.size)
            have kc := conv_sees w3 (some ⟨g, 0, none⟩) k cap (rowA k) (rowA_len k) (hsb.below b3)
            clear hown2 hgrow2 hs2 hsb
            go_wp2_with fail
            have hb4 := hb3
            refine (HL.out w3 hb4).mono ?_
            rintro e w5 ⟨rfl, b5⟩
            go_wp2_with fail
            go_ret
            exact ⟨rfl, hb4.trans (b5.mono hb4.size)⟩
          · go_wp2_with (first | (at_builtin; refine wpList_append_grows _ rfl _ _ 22 rfl 5 i0 (.int .u8 0) 1 1 Tryd.underlying22 hi0 hz0 hz1 hz2 rfl (by decide) (some ⟨g, 0, none⟩) k cap (vB (rowA k)) rfl (fun h => by cases h) (by rw [vB_len, rowA_len, Nat.mul_one]) (HHH.out _) ⟨wr.heap.size, 0, none⟩ 1 1 (vB [61]) rfl rfl (long_cells wr (vB [61]) _) (vB_one [61]) (by omega) (by unfold maxLen; omega) (by omega) ?_; intro v' w2 hown2 hgrow2; obtain ⟨g', cap', rfl, h5, h6⟩ := own_form hown2))
            have hb2 : Below w.heap.size w w2 := (hB.alloc hsW _).grown hgrow2 (by simp; omega) (fun j hj => by cases hj)
            rw [← vB_append] at hown2
            have hs2 := sees_own hown2
            have hsb : Sees w2 (some ⟨g, 0, none⟩) (vB (rowA k)) := (HSS.out.below ((Below.refl _ _).alloc (Nat.le_refl _) _)).below ((Below.refl _ _).grown hgrow2 (Nat.le_refl _) (fun j hj => by cases hj))
            refine (HN.out w2 _ cap' hb2 hs2 h5 h6).mono ?_
            rintro e w3 ⟨rfl, b3⟩
            have hb3 := hb2.trans (b3.mono hb2.size)
            have kc := conv_sees w3 (some ⟨g, 0, none⟩) k cap (rowA k) (rowA_len k) (hsb.below b3)
            clear hown2 hgrow2 hs2 hsb
            go_wp2_with fail
            have hb4 := hb3
            refine (HL.out w3 hb4).mono ?_
            rintro e w5 ⟨rfl, b5⟩
            go_wp2_with fail
            go_ret
            exact ⟨rfl, hb4.trans (b5.mono hb4.size)⟩
end Go.Proofs.YtncoldgkljnbeaaDoor
