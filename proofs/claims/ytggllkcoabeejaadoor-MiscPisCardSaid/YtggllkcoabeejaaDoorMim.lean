/- Processing instructions, read where one begins. -/
import Derived.Test.YtggllkcoabeejaaDoorMil
namespace Go.Proofs.YtggllkcoabeejaaDoor
open Go.ChangeShapes Go.WideShapes Go.ChangeAt Go.RowKit
set_option linter.unusedVariables false
set_option maxRecDepth 100000

theorem blk_le (l : List UInt8) : ∀ f k, k ≤ l.length → blkN l f k ≤ l.length
  | 0, k, h => by unfold blkN; exact h
  | f + 1, k, h => by
    rw [blkN]
    split
    · next h1 => exact blk_le l f (k + 1) (by omega)
    · exact h
/-- What Reserved tells, whatever the world. -/
def ResOk (w : World) : Prop := ∀ (m : List UInt8) (w' : World), Below w.heap.size w w' → Calls Tryd.prog 18 #[strV m] w' fun e w'' => e = .returned (.bool (resB m)) ∧ Below w'.heap.size w' w''
set_option maxHeartbeats 16000000 in
theorem pi_yes (l : List UInt8) (A : Option Addr) (n c j : Nat) (w : World) (hn : l.length = n) (hnc : n ≤ c) (hc9 : c ≤ 9223372036854775807) (hn9 : n ≤ 1000000000) (hj : j ≤ n) (hs : Sees w A (vB l)) (hocc : Lib.occAt l pA j = true) (hm : MaxAt w) (ht : TabN w) (hR : ResOk w) :
    Calls Tryd.prog 11 #[.slice A n c, .int .i64 j] w fun e w' => e = .returned (piW l (j + 2)) ∧ Below w.heap.size w w' := by
  have hroom : j + 2 ≤ n := by
    by_cases h : j + 2 ≤ n
    · exact h
    · rw [occ_short (l := l) (sub := pA) (k := j) (by rw [show pA.length = 2 from rfl]; omega) (by decide)] at hocc; cases hocc
  obtain ⟨ad, rfl, _⟩ := hs.byte (k := j) (by omega)
  have i0 : (0 : Int) ≤ (j : Int) := by omega
  have i1 : (j : Int) ≤ (n : Int) := by omega
  have i2 : (j : Int) ≤ (c : Int) := by omega
  have hcj : c ≠ j := by omega
  have hsA := hs.drop (k := j) (cap := c) (by rw [vB_len]; omega)
  rw [← vB_drop, if_neg hcj] at hsA
  have HS := Lib.hid (fun (w' : World) (hb : Below w.heap.size w w') => hsA.below hb)
  have kc := fun W => run_bytes_of_string (P := Tryd.prog) W 9 22 5 ⟨pA.toArray⟩ Tryd.underlying9 Tryd.underlying22 Tryd.underlying5
  have KP := Lib.hid (fun (w' : World) (A' B : Option Addr) (d : Nat) (h1 : Sees w' A' (vB (l.drop j))) (h2 : Sees w' B (vB pA)) => bPrefix_any (l.drop j) pA A' B (n - j) (c - j) pA.length d w' (by simp; omega) rfl (by omega) h1 h2)
  have ho : Lib.occAt (l.drop j) pA 0 = Lib.occAt l pA j := by rw [occ_drop]; rfl
  rw [ho, hocc] at KP
  obtain ⟨p, hp⟩ : ∃ p, j + 2 = p := ⟨_, rfl⟩
  have hpI : (j : Int) + 2 = (p : Int) := by omega
  rw [hp]
  have hpn : p ≤ n := by omega
  have K2' := fun (w' : World) (hb : Below w.heap.size w w') => plainN_any l (some ad) n c p w' hn hnc hc9 ⟨by omega, by omega⟩ (hs.below hb) (ht.below hb)
  obtain ⟨V, hVV⟩ : ∃ V, piW l p = V := ⟨_, rfl⟩
  rw [hVV]
  have HV := Lib.hid hVV
  unfold piW at HV
  obtain ⟨z, hz⟩ : ∃ z, endN l (plainP charN) l.length (plainP startN) p = z := ⟨_, rfl⟩
  have hzz : piZ l p = z := hz
  have hzle := endN_le l (plainP charN) l.length (plainP startN) p (by omega)
  rw [hz] at hzle
  have hzn : z ≤ n := by omega
  rw [hzz] at HV
  rcases Nat.lt_or_ge p z with hpz | hpz
  rotate_left
  · obtain rfl : z = p := by omega
    have HC := Lib.hid (show V = no4 7 by rw [← HV.out, if_pos rfl])
    have K2 := Lib.hid (fun (w' : World) (hb : Below w.heap.size w w') => (readV_none (l := l) (k := z) (p := plainP startN) (q := plainP charN) (by omega) hz) ▸ K2' w' hb)
    clear K2' hs hsA hm ht hR hocc ho HV hVV hz hzz
    go_enter Tryd.func11, Tryd.ntmps11
    go_wp2_with fail
    refine (pMarks_any _).mono ?_
    rintro e w1 ⟨b, rfl, b1, hc1⟩
    have hbx := b1.alloc b1.size (.cells #[strV pA, strV pB, .func (.func 54) #[] #[.pointer (some ⟨b, 0, none⟩)]] 44)
    go_wp2_with fail
    go_region_with (go_at_call 25; refine (KP.out _ _ _ _ (HS.out _ (by first | exact ((hbx.alloc (by simp; have := b1.size; omega) _).drew) | exact ((hbx.alloc (by simp; have := b1.size; omega) _).drew).drew)) (by first | exact made_sees _ pA _ _ _ _ (by simp) | exact Sees.drw (made_sees _ pA _ _ _ _ (by simp)))).mono ?_; rintro e w2 ⟨rfl, hw2⟩; have HW2 := Lib.hid hw2; clear hw2)
    all_goals
      have hXX : (w1.alloc (.cells #[strV pA, strV pB, .func (.func 54) #[] #[.pointer (some ⟨b, 0, none⟩)]] 44)).heap[w1.heap.size]? = some (.cells #[strV pA, strV pB, .func (.func 54) #[] #[.pointer (some ⟨b, 0, none⟩)]] 44) := by
        show (w1.heap.push _)[w1.heap.size]? = _
        exact Array.getElem?_push_size ..
      have hbX : Below (w1.heap.size + 1) (w1.alloc (.cells #[strV pA, strV pB, .func (.func 54) #[] #[.pointer (some ⟨b, 0, none⟩)]] 44)) w2 := by
        rw [HW2.out]
        first | exact (((Below.refl _ _).alloc (by simp) _).drew) | exact (((Below.refl _ _).alloc (by simp) _).drew).drew
      have hs1 := b1.size
      have hb2 : Below w.heap.size w w2 := hbx.trans (hbX.mono (by omega))
      have hb12 : Below w1.heap.size w1 w2 := ((Below.refl _ _).alloc (Nat.le_refl _) _).trans (hbX.mono (by omega))
      have hX2 := (hbX.block w1.heap.size (by omega)).trans hXX
      have z0 : w2.cell? ⟨w1.heap.size, 0, none⟩ = some (strV pA) := by rw [Lib.cell_of_heap hX2]; rfl
      have z1 : w2.cell? ⟨w1.heap.size, 1, none⟩ = some (strV pB) := by rw [Lib.cell_of_heap hX2]; rfl
      have z2 : w2.cell? ⟨w1.heap.size, 2, none⟩ = some (.func (.func 54) #[] #[.pointer (some ⟨b, 0, none⟩)]) := by rw [Lib.cell_of_heap hX2]; rfl
      have hc2 := cell_later hb12 hc1
      have hpl : (⟨pA.toArray⟩ : ByteArray).size = 2 := rfl
      have hpl2 : (⟨pB.toArray⟩ : ByteArray).size = 2 := rfl
      clear HW2 hX2 hXX hbX
      go_wp2_with fail
      refine (K2.out _ hb2).mono ?_
      rintro e w3 ⟨rfl, b3⟩
      have hb3 := hb2.trans (b3.mono hb2.size)
      have y1 := cell_later b3 z1
      have y2 := cell_later b3 z2
      have hc3 := cell_later b3 hc2
      clear z0 z1 z2 hc2 hc1 hb12 hbx
      go_wp2_with fail
      go_returns
      exact ⟨by have h := HC.out; subst h; rfl, hb3⟩
  · by_cases hlong : 1024 < z - p
    · have HC := Lib.hid (show V = no4 11 by rw [← HV.out, if_neg (by omega), if_pos hlong])
      have K2 := Lib.hid (fun (w' : World) (hb : Below w.heap.size w w') => (readV_long (l := l) (k := p) (z := z) (p := plainP startN) (q := plainP charN) (by omega) hz hpz hlong) ▸ K2' w' hb)
      clear K2' hs hsA hm ht hR hocc ho HV hVV hz hzz
      go_enter Tryd.func11, Tryd.ntmps11
      go_wp2_with fail
      refine (pMarks_any _).mono ?_
      rintro e w1 ⟨b, rfl, b1, hc1⟩
      have hbx := b1.alloc b1.size (.cells #[strV pA, strV pB, .func (.func 54) #[] #[.pointer (some ⟨b, 0, none⟩)]] 44)
      go_wp2_with fail
      go_region_with (go_at_call 25; refine (KP.out _ _ _ _ (HS.out _ (by first | exact ((hbx.alloc (by simp; have := b1.size; omega) _).drew) | exact ((hbx.alloc (by simp; have := b1.size; omega) _).drew).drew)) (by first | exact made_sees _ pA _ _ _ _ (by simp) | exact Sees.drw (made_sees _ pA _ _ _ _ (by simp)))).mono ?_; rintro e w2 ⟨rfl, hw2⟩; have HW2 := Lib.hid hw2; clear hw2)
      all_goals
        have hXX : (w1.alloc (.cells #[strV pA, strV pB, .func (.func 54) #[] #[.pointer (some ⟨b, 0, none⟩)]] 44)).heap[w1.heap.size]? = some (.cells #[strV pA, strV pB, .func (.func 54) #[] #[.pointer (some ⟨b, 0, none⟩)]] 44) := by
          show (w1.heap.push _)[w1.heap.size]? = _
          exact Array.getElem?_push_size ..
        have hbX : Below (w1.heap.size + 1) (w1.alloc (.cells #[strV pA, strV pB, .func (.func 54) #[] #[.pointer (some ⟨b, 0, none⟩)]] 44)) w2 := by
          rw [HW2.out]
          first | exact (((Below.refl _ _).alloc (by simp) _).drew) | exact (((Below.refl _ _).alloc (by simp) _).drew).drew
        have hs1 := b1.size
        have hb2 : Below w.heap.size w w2 := hbx.trans (hbX.mono (by omega))
        have hb12 : Below w1.heap.size w1 w2 := ((Below.refl _ _).alloc (Nat.le_refl _) _).trans (hbX.mono (by omega))
        have hX2 := (hbX.block w1.heap.size (by omega)).trans hXX
        have z0 : w2.cell? ⟨w1.heap.size, 0, none⟩ = some (strV pA) := by rw [Lib.cell_of_heap hX2]; rfl
        have z1 : w2.cell? ⟨w1.heap.size, 1, none⟩ = some (strV pB) := by rw [Lib.cell_of_heap hX2]; rfl
        have z2 : w2.cell? ⟨w1.heap.size, 2, none⟩ = some (.func (.func 54) #[] #[.pointer (some ⟨b, 0, none⟩)]) := by rw [Lib.cell_of_heap hX2]; rfl
        have hc2 := cell_later hb12 hc1
        have hpl : (⟨pA.toArray⟩ : ByteArray).size = 2 := rfl
        have hpl2 : (⟨pB.toArray⟩ : ByteArray).size = 2 := rfl
        clear HW2 hX2 hXX hbX
        go_wp2_with fail
        refine (K2.out _ hb2).mono ?_
        rintro e w3 ⟨rfl, b3⟩
        have hb3 := hb2.trans (b3.mono hb2.size)
        have y1 := cell_later b3 z1
        have y2 := cell_later b3 z2
        have hc3 := cell_later b3 hc2
        clear z0 z1 z2 hc2 hc1 hb12 hbx
        go_wp2_with fail
        go_returns
        exact ⟨by have h := HC.out; subst h; rfl, hb3⟩
    · have K2 := Lib.hid (fun (w' : World) (hb : Below w.heap.size w w') => (readV_ok (l := l) (k := p) (z := z) (p := plainP startN) (q := plainP charN) (by omega) hz hpz (by omega)) ▸ K2' w' hb)
      obtain ⟨q, hq⟩ : ∃ q, blkN l l.length z = q := ⟨_, rfl⟩
      have hqq : piQ l p = q := by unfold piQ; rw [hzz]; exact hq
      have hqn : q ≤ n := by have := blk_le l l.length z (by omega); omega
      have hbv : blkV l (z : Int) = (q : Int) := by rw [blkV_in (by omega), hq]
      have K3 := Lib.hid (fun (w' : World) (hb : Below w.heap.size w w') => hbv ▸ blanks_any l (some ad) n c z w' hn hnc (by omega) ⟨by omega, by omega⟩ (hs.below hb))
      obtain ⟨name, hname⟩ : ∃ name, (l.drop p).take (z - p) = name := ⟨_, rfl⟩
      rw [hname] at K2
      rw [hname, hqq, if_neg (by omega), if_neg hlong] at HV
      obtain ⟨s, hss⟩ : ∃ s, Lib.index (l.drop q) pB = s := ⟨_, rfl⟩
      have hsr := Lib.index_room (l.drop q) pB
      rw [hss] at hsr HV
      rw [List.length_drop, show pB.length = 2 from rfl] at hsr
      have KR' := hR name
      obtain ⟨r, hr⟩ : ∃ r, resB name = r := ⟨_, rfl⟩
      rw [hr] at KR' HV
      have KR := Lib.hid KR'
      have q0 : (0 : Int) ≤ (q : Int) := by omega
      have q1 : (q : Int) ≤ (n : Int) := by omega
      have q2 : (q : Int) ≤ (c : Int) := by omega
      have hsq := hs.drop (k := q) (cap := c) (by rw [vB_len]; omega)
      rw [← vB_drop] at hsq
      clear K2' KR' hname hr hq hqq hbv hz hzz hsA hR hocc ho hVV hs ht
      by_cases hcq : c = q
      · rw [if_pos hcq] at hsq
        have hs0 : s < 0 := by
          by_cases h : s < 0
          · exact h
          · have := hsr (by omega); omega
        obtain rfl : n = q := by omega
        obtain rfl : c = n := hcq
        have HC := Lib.hid (show V = no4 7 by rw [← HV.out, if_pos (.inr (.inl hs0))])
        have K4 := Lib.hid (fun (b : Nat) (w' : World) (hb : Below w.heap.size w w') (hc : w'.cell? ⟨b, 0, none⟩ = some (strV pB)) => hss ▸ ffind_any (l.drop c) pB (some ad) 0 0 b w' (by simp; omega) (Nat.le_refl _) (by omega) (hsq.below hb) (by omega) (by decide) (by decide) (hm.below hb) hc)
        clear hsq hm HV hss hsr
        cases r with
        | true =>
          go_enter Tryd.func11, Tryd.ntmps11
          go_wp2_with fail
          refine (pMarks_any _).mono ?_
          rintro e w1 ⟨b, rfl, b1, hc1⟩
          have hbx := b1.alloc b1.size (.cells #[strV pA, strV pB, .func (.func 54) #[] #[.pointer (some ⟨b, 0, none⟩)]] 44)
          go_wp2_with fail
          go_region_with (go_at_call 25; refine (KP.out _ _ _ _ (HS.out _ (by first | exact ((hbx.alloc (by simp; have := b1.size; omega) _).drew) | exact ((hbx.alloc (by simp; have := b1.size; omega) _).drew).drew)) (by first | exact made_sees _ pA _ _ _ _ (by simp) | exact Sees.drw (made_sees _ pA _ _ _ _ (by simp)))).mono ?_; rintro e w2 ⟨rfl, hw2⟩; have HW2 := Lib.hid hw2; clear hw2)
          all_goals
            have hXX : (w1.alloc (.cells #[strV pA, strV pB, .func (.func 54) #[] #[.pointer (some ⟨b, 0, none⟩)]] 44)).heap[w1.heap.size]? = some (.cells #[strV pA, strV pB, .func (.func 54) #[] #[.pointer (some ⟨b, 0, none⟩)]] 44) := by
              show (w1.heap.push _)[w1.heap.size]? = _
              exact Array.getElem?_push_size ..
            have hbX : Below (w1.heap.size + 1) (w1.alloc (.cells #[strV pA, strV pB, .func (.func 54) #[] #[.pointer (some ⟨b, 0, none⟩)]] 44)) w2 := by
              rw [HW2.out]
              first | exact (((Below.refl _ _).alloc (by simp) _).drew) | exact (((Below.refl _ _).alloc (by simp) _).drew).drew
            have hs1 := b1.size
            have hb2 : Below w.heap.size w w2 := hbx.trans (hbX.mono (by omega))
            have hb12 : Below w1.heap.size w1 w2 := ((Below.refl _ _).alloc (Nat.le_refl _) _).trans (hbX.mono (by omega))
            have hX2 := (hbX.block w1.heap.size (by omega)).trans hXX
            have z0 : w2.cell? ⟨w1.heap.size, 0, none⟩ = some (strV pA) := by rw [Lib.cell_of_heap hX2]; rfl
            have z1 : w2.cell? ⟨w1.heap.size, 1, none⟩ = some (strV pB) := by rw [Lib.cell_of_heap hX2]; rfl
            have z2 : w2.cell? ⟨w1.heap.size, 2, none⟩ = some (.func (.func 54) #[] #[.pointer (some ⟨b, 0, none⟩)]) := by rw [Lib.cell_of_heap hX2]; rfl
            have hc2 := cell_later hb12 hc1
            have hpl : (⟨pA.toArray⟩ : ByteArray).size = 2 := rfl
            have hpl2 : (⟨pB.toArray⟩ : ByteArray).size = 2 := rfl
            clear HW2 hX2 hXX hbX
            go_wp2_with fail
            refine (K2.out _ hb2).mono ?_
            rintro e w3 ⟨rfl, b3⟩
            have hb3 := hb2.trans (b3.mono hb2.size)
            have y1 := cell_later b3 z1
            have y2 := cell_later b3 z2
            have hc3 := cell_later b3 hc2
            clear z0 z1 z2 hc2 hc1 hb12 hbx
            go_wp2_with fail
            refine (K3.out _ hb3).mono ?_
            rintro e w4 ⟨rfl, hw4⟩
            subst hw4
            have K5 := Lib.hid (fun (w' : World) (hb : Below w3.heap.size w3 w') => K4.out b w' (hb3.trans (hb.mono hb3.size)) (cell_later hb hc3))
            have enf := enters_first
            unfold Enters at enf
            go_wp2_with fail
            go_region_with (refine (K5.out _ (by first | exact Below.refl _ _ | exact (Below.refl _ _).drew)).mono ?_; rintro e w5 ⟨rfl, b5'⟩; have b5 : Below w3.heap.size w3 w5 := (by first | exact b5' | exact Below.trans (Below.drew (Below.refl w3.heap.size w3)) b5'); clear b5')
            all_goals
              have hb5 := hb3.trans (b5.mono hb3.size)
              have x1 := cell_later b5 y1
              have RN := Lib.hid (KR.out w5 hb5)
              clear K2 K3 K4 K5 kc y1 y2 hc3
              go_wp2_with fail
              refine RN.out.mono ?_
              rintro e w6 ⟨rfl, b6⟩
              have hb6 := hb5.trans (b6.mono hb5.size)
              have x2 := cell_later b6 x1
              go_wp2_with fail
              go_returns
              exact ⟨by have h := HC.out; subst h; rfl, hb6⟩
        | false =>
          go_enter Tryd.func11, Tryd.ntmps11
          go_wp2_with fail
          refine (pMarks_any _).mono ?_
          rintro e w1 ⟨b, rfl, b1, hc1⟩
          have hbx := b1.alloc b1.size (.cells #[strV pA, strV pB, .func (.func 54) #[] #[.pointer (some ⟨b, 0, none⟩)]] 44)
          go_wp2_with fail
          go_region_with (go_at_call 25; refine (KP.out _ _ _ _ (HS.out _ (by first | exact ((hbx.alloc (by simp; have := b1.size; omega) _).drew) | exact ((hbx.alloc (by simp; have := b1.size; omega) _).drew).drew)) (by first | exact made_sees _ pA _ _ _ _ (by simp) | exact Sees.drw (made_sees _ pA _ _ _ _ (by simp)))).mono ?_; rintro e w2 ⟨rfl, hw2⟩; have HW2 := Lib.hid hw2; clear hw2)
          all_goals
            have hXX : (w1.alloc (.cells #[strV pA, strV pB, .func (.func 54) #[] #[.pointer (some ⟨b, 0, none⟩)]] 44)).heap[w1.heap.size]? = some (.cells #[strV pA, strV pB, .func (.func 54) #[] #[.pointer (some ⟨b, 0, none⟩)]] 44) := by
              show (w1.heap.push _)[w1.heap.size]? = _
              exact Array.getElem?_push_size ..
            have hbX : Below (w1.heap.size + 1) (w1.alloc (.cells #[strV pA, strV pB, .func (.func 54) #[] #[.pointer (some ⟨b, 0, none⟩)]] 44)) w2 := by
              rw [HW2.out]
              first | exact (((Below.refl _ _).alloc (by simp) _).drew) | exact (((Below.refl _ _).alloc (by simp) _).drew).drew
            have hs1 := b1.size
            have hb2 : Below w.heap.size w w2 := hbx.trans (hbX.mono (by omega))
            have hb12 : Below w1.heap.size w1 w2 := ((Below.refl _ _).alloc (Nat.le_refl _) _).trans (hbX.mono (by omega))
            have hX2 := (hbX.block w1.heap.size (by omega)).trans hXX
            have z0 : w2.cell? ⟨w1.heap.size, 0, none⟩ = some (strV pA) := by rw [Lib.cell_of_heap hX2]; rfl
            have z1 : w2.cell? ⟨w1.heap.size, 1, none⟩ = some (strV pB) := by rw [Lib.cell_of_heap hX2]; rfl
            have z2 : w2.cell? ⟨w1.heap.size, 2, none⟩ = some (.func (.func 54) #[] #[.pointer (some ⟨b, 0, none⟩)]) := by rw [Lib.cell_of_heap hX2]; rfl
            have hc2 := cell_later hb12 hc1
            have hpl : (⟨pA.toArray⟩ : ByteArray).size = 2 := rfl
            have hpl2 : (⟨pB.toArray⟩ : ByteArray).size = 2 := rfl
            clear HW2 hX2 hXX hbX
            go_wp2_with fail
            refine (K2.out _ hb2).mono ?_
            rintro e w3 ⟨rfl, b3⟩
            have hb3 := hb2.trans (b3.mono hb2.size)
            have y1 := cell_later b3 z1
            have y2 := cell_later b3 z2
            have hc3 := cell_later b3 hc2
            clear z0 z1 z2 hc2 hc1 hb12 hbx
            go_wp2_with fail
            refine (K3.out _ hb3).mono ?_
            rintro e w4 ⟨rfl, hw4⟩
            subst hw4
            have K5 := Lib.hid (fun (w' : World) (hb : Below w3.heap.size w3 w') => K4.out b w' (hb3.trans (hb.mono hb3.size)) (cell_later hb hc3))
            have enf := enters_first
            unfold Enters at enf
            go_wp2_with fail
            go_region_with (refine (K5.out _ (by first | exact Below.refl _ _ | exact (Below.refl _ _).drew)).mono ?_; rintro e w5 ⟨rfl, b5'⟩; have b5 : Below w3.heap.size w3 w5 := (by first | exact b5' | exact Below.trans (Below.drew (Below.refl w3.heap.size w3)) b5'); clear b5')
            all_goals
              have hb5 := hb3.trans (b5.mono hb3.size)
              have x1 := cell_later b5 y1
              have RN := Lib.hid (KR.out w5 hb5)
              clear K2 K3 K4 K5 kc y1 y2 hc3
              go_wp2_with fail
              refine RN.out.mono ?_
              rintro e w6 ⟨rfl, b6⟩
              have hb6 := hb5.trans (b6.mono hb5.size)
              have x2 := cell_later b6 x1
              go_wp2_with fail
              go_returns
              exact ⟨by have h := HC.out; subst h; rfl, hb6⟩
      · rw [if_neg hcq] at hsq
        have K4 := Lib.hid (fun (b : Nat) (w' : World) (hb : Below w.heap.size w w') (hc : w'.cell? ⟨b, 0, none⟩ = some (strV pB)) => hss ▸ ffind_any (l.drop q) pB (some (ad.add q)) (n - q) (c - q) b w' (by simp; omega) (by omega) (by omega) (hsq.below hb) (by omega) (by decide) (by decide) (hm.below hb) hc)
        clear hm hss
        cases r with
        | true =>
          have HC := Lib.hid (show V = no4 7 by rw [← HV.out, if_pos (.inl rfl)])
          clear hsq HV hsr
          go_enter Tryd.func11, Tryd.ntmps11
          go_wp2_with fail
          refine (pMarks_any _).mono ?_
          rintro e w1 ⟨b, rfl, b1, hc1⟩
          have hbx := b1.alloc b1.size (.cells #[strV pA, strV pB, .func (.func 54) #[] #[.pointer (some ⟨b, 0, none⟩)]] 44)
          go_wp2_with fail
          go_region_with (go_at_call 25; refine (KP.out _ _ _ _ (HS.out _ (by first | exact ((hbx.alloc (by simp; have := b1.size; omega) _).drew) | exact ((hbx.alloc (by simp; have := b1.size; omega) _).drew).drew)) (by first | exact made_sees _ pA _ _ _ _ (by simp) | exact Sees.drw (made_sees _ pA _ _ _ _ (by simp)))).mono ?_; rintro e w2 ⟨rfl, hw2⟩; have HW2 := Lib.hid hw2; clear hw2)
          all_goals
            have hXX : (w1.alloc (.cells #[strV pA, strV pB, .func (.func 54) #[] #[.pointer (some ⟨b, 0, none⟩)]] 44)).heap[w1.heap.size]? = some (.cells #[strV pA, strV pB, .func (.func 54) #[] #[.pointer (some ⟨b, 0, none⟩)]] 44) := by
              show (w1.heap.push _)[w1.heap.size]? = _
              exact Array.getElem?_push_size ..
            have hbX : Below (w1.heap.size + 1) (w1.alloc (.cells #[strV pA, strV pB, .func (.func 54) #[] #[.pointer (some ⟨b, 0, none⟩)]] 44)) w2 := by
              rw [HW2.out]
              first | exact (((Below.refl _ _).alloc (by simp) _).drew) | exact (((Below.refl _ _).alloc (by simp) _).drew).drew
            have hs1 := b1.size
            have hb2 : Below w.heap.size w w2 := hbx.trans (hbX.mono (by omega))
            have hb12 : Below w1.heap.size w1 w2 := ((Below.refl _ _).alloc (Nat.le_refl _) _).trans (hbX.mono (by omega))
            have hX2 := (hbX.block w1.heap.size (by omega)).trans hXX
            have z0 : w2.cell? ⟨w1.heap.size, 0, none⟩ = some (strV pA) := by rw [Lib.cell_of_heap hX2]; rfl
            have z1 : w2.cell? ⟨w1.heap.size, 1, none⟩ = some (strV pB) := by rw [Lib.cell_of_heap hX2]; rfl
            have z2 : w2.cell? ⟨w1.heap.size, 2, none⟩ = some (.func (.func 54) #[] #[.pointer (some ⟨b, 0, none⟩)]) := by rw [Lib.cell_of_heap hX2]; rfl
            have hc2 := cell_later hb12 hc1
            have hpl : (⟨pA.toArray⟩ : ByteArray).size = 2 := rfl
            have hpl2 : (⟨pB.toArray⟩ : ByteArray).size = 2 := rfl
            clear HW2 hX2 hXX hbX
            go_wp2_with fail
            refine (K2.out _ hb2).mono ?_
            rintro e w3 ⟨rfl, b3⟩
            have hb3 := hb2.trans (b3.mono hb2.size)
            have y1 := cell_later b3 z1
            have y2 := cell_later b3 z2
            have hc3 := cell_later b3 hc2
            clear z0 z1 z2 hc2 hc1 hb12 hbx
            go_wp2_with fail
            refine (K3.out _ hb3).mono ?_
            rintro e w4 ⟨rfl, hw4⟩
            subst hw4
            have K5 := Lib.hid (fun (w' : World) (hb : Below w3.heap.size w3 w') => K4.out b w' (hb3.trans (hb.mono hb3.size)) (cell_later hb hc3))
            have enf := enters_first
            unfold Enters at enf
            go_wp2_with fail
            go_region_with (refine (K5.out _ (by first | exact Below.refl _ _ | exact (Below.refl _ _).drew)).mono ?_; rintro e w5 ⟨rfl, b5'⟩; have b5 : Below w3.heap.size w3 w5 := (by first | exact b5' | exact Below.trans (Below.drew (Below.refl w3.heap.size w3)) b5'); clear b5')
            all_goals
              have hb5 := hb3.trans (b5.mono hb3.size)
              have x1 := cell_later b5 y1
              have RN := Lib.hid (KR.out w5 hb5)
              clear K2 K3 K4 K5 kc y1 y2 hc3
              go_wp2_with fail
              refine RN.out.mono ?_
              rintro e w6 ⟨rfl, b6⟩
              have hb6 := hb5.trans (b6.mono hb5.size)
              have x2 := cell_later b6 x1
              go_wp2_with fail
              go_returns
              exact ⟨by have h := HC.out; subst h; rfl, hb6⟩
        | false =>
          by_cases hs0 : s < 0
          · have HC := Lib.hid (show V = no4 7 by rw [← HV.out, if_pos (.inr (.inl hs0))])
            clear hsq HV hsr
            go_enter Tryd.func11, Tryd.ntmps11
            go_wp2_with fail
            refine (pMarks_any _).mono ?_
            rintro e w1 ⟨b, rfl, b1, hc1⟩
            have hbx := b1.alloc b1.size (.cells #[strV pA, strV pB, .func (.func 54) #[] #[.pointer (some ⟨b, 0, none⟩)]] 44)
            go_wp2_with fail
            go_region_with (go_at_call 25; refine (KP.out _ _ _ _ (HS.out _ (by first | exact ((hbx.alloc (by simp; have := b1.size; omega) _).drew) | exact ((hbx.alloc (by simp; have := b1.size; omega) _).drew).drew)) (by first | exact made_sees _ pA _ _ _ _ (by simp) | exact Sees.drw (made_sees _ pA _ _ _ _ (by simp)))).mono ?_; rintro e w2 ⟨rfl, hw2⟩; have HW2 := Lib.hid hw2; clear hw2)
            all_goals
              have hXX : (w1.alloc (.cells #[strV pA, strV pB, .func (.func 54) #[] #[.pointer (some ⟨b, 0, none⟩)]] 44)).heap[w1.heap.size]? = some (.cells #[strV pA, strV pB, .func (.func 54) #[] #[.pointer (some ⟨b, 0, none⟩)]] 44) := by
                show (w1.heap.push _)[w1.heap.size]? = _
                exact Array.getElem?_push_size ..
              have hbX : Below (w1.heap.size + 1) (w1.alloc (.cells #[strV pA, strV pB, .func (.func 54) #[] #[.pointer (some ⟨b, 0, none⟩)]] 44)) w2 := by
                rw [HW2.out]
                first | exact (((Below.refl _ _).alloc (by simp) _).drew) | exact (((Below.refl _ _).alloc (by simp) _).drew).drew
              have hs1 := b1.size
              have hb2 : Below w.heap.size w w2 := hbx.trans (hbX.mono (by omega))
              have hb12 : Below w1.heap.size w1 w2 := ((Below.refl _ _).alloc (Nat.le_refl _) _).trans (hbX.mono (by omega))
              have hX2 := (hbX.block w1.heap.size (by omega)).trans hXX
              have z0 : w2.cell? ⟨w1.heap.size, 0, none⟩ = some (strV pA) := by rw [Lib.cell_of_heap hX2]; rfl
              have z1 : w2.cell? ⟨w1.heap.size, 1, none⟩ = some (strV pB) := by rw [Lib.cell_of_heap hX2]; rfl
              have z2 : w2.cell? ⟨w1.heap.size, 2, none⟩ = some (.func (.func 54) #[] #[.pointer (some ⟨b, 0, none⟩)]) := by rw [Lib.cell_of_heap hX2]; rfl
              have hc2 := cell_later hb12 hc1
              have hpl : (⟨pA.toArray⟩ : ByteArray).size = 2 := rfl
              have hpl2 : (⟨pB.toArray⟩ : ByteArray).size = 2 := rfl
              clear HW2 hX2 hXX hbX
              go_wp2_with fail
              refine (K2.out _ hb2).mono ?_
              rintro e w3 ⟨rfl, b3⟩
              have hb3 := hb2.trans (b3.mono hb2.size)
              have y1 := cell_later b3 z1
              have y2 := cell_later b3 z2
              have hc3 := cell_later b3 hc2
              clear z0 z1 z2 hc2 hc1 hb12 hbx
              go_wp2_with fail
              refine (K3.out _ hb3).mono ?_
              rintro e w4 ⟨rfl, hw4⟩
              subst hw4
              have K5 := Lib.hid (fun (w' : World) (hb : Below w3.heap.size w3 w') => K4.out b w' (hb3.trans (hb.mono hb3.size)) (cell_later hb hc3))
              have enf := enters_first
              unfold Enters at enf
              go_wp2_with fail
              go_region_with (refine (K5.out _ (by first | exact Below.refl _ _ | exact (Below.refl _ _).drew)).mono ?_; rintro e w5 ⟨rfl, b5'⟩; have b5 : Below w3.heap.size w3 w5 := (by first | exact b5' | exact Below.trans (Below.drew (Below.refl w3.heap.size w3)) b5'); clear b5')
              all_goals
                have hb5 := hb3.trans (b5.mono hb3.size)
                have x1 := cell_later b5 y1
                have RN := Lib.hid (KR.out w5 hb5)
                clear K2 K3 K4 K5 kc y1 y2 hc3
                go_wp2_with fail
                refine RN.out.mono ?_
                rintro e w6 ⟨rfl, b6⟩
                have hb6 := hb5.trans (b6.mono hb5.size)
                have x2 := cell_later b6 x1
                go_wp2_with fail
                go_returns
                exact ⟨by have h := HC.out; subst h; rfl, hb6⟩
          · obtain ⟨t, rfl⟩ : ∃ t : Nat, s = t := ⟨s.toNat, by omega⟩
            have hsr' := hsr (by omega)
            have t1 : ¬ ((t : Int) < 0) := by omega
            by_cases hbad : q = z ∧ 0 < t
            · have HC := Lib.hid (show V = no4 7 by rw [← HV.out, if_pos (.inr (.inr ⟨hbad.1, by omega⟩))])
              have t2 : ((q : Int) == (z : Int)) = true := by simp; omega
              have t3 : (0 : Int) < (t : Int) := by omega
              clear hsq HV hsr hbad
              go_enter Tryd.func11, Tryd.ntmps11
              go_wp2_with fail
              refine (pMarks_any _).mono ?_
              rintro e w1 ⟨b, rfl, b1, hc1⟩
              have hbx := b1.alloc b1.size (.cells #[strV pA, strV pB, .func (.func 54) #[] #[.pointer (some ⟨b, 0, none⟩)]] 44)
              go_wp2_with fail
              go_region_with (go_at_call 25; refine (KP.out _ _ _ _ (HS.out _ (by first | exact ((hbx.alloc (by simp; have := b1.size; omega) _).drew) | exact ((hbx.alloc (by simp; have := b1.size; omega) _).drew).drew)) (by first | exact made_sees _ pA _ _ _ _ (by simp) | exact Sees.drw (made_sees _ pA _ _ _ _ (by simp)))).mono ?_; rintro e w2 ⟨rfl, hw2⟩; have HW2 := Lib.hid hw2; clear hw2)
              all_goals
                have hXX : (w1.alloc (.cells #[strV pA, strV pB, .func (.func 54) #[] #[.pointer (some ⟨b, 0, none⟩)]] 44)).heap[w1.heap.size]? = some (.cells #[strV pA, strV pB, .func (.func 54) #[] #[.pointer (some ⟨b, 0, none⟩)]] 44) := by
                  show (w1.heap.push _)[w1.heap.size]? = _
                  exact Array.getElem?_push_size ..
                have hbX : Below (w1.heap.size + 1) (w1.alloc (.cells #[strV pA, strV pB, .func (.func 54) #[] #[.pointer (some ⟨b, 0, none⟩)]] 44)) w2 := by
                  rw [HW2.out]
                  first | exact (((Below.refl _ _).alloc (by simp) _).drew) | exact (((Below.refl _ _).alloc (by simp) _).drew).drew
                have hs1 := b1.size
                have hb2 : Below w.heap.size w w2 := hbx.trans (hbX.mono (by omega))
                have hb12 : Below w1.heap.size w1 w2 := ((Below.refl _ _).alloc (Nat.le_refl _) _).trans (hbX.mono (by omega))
                have hX2 := (hbX.block w1.heap.size (by omega)).trans hXX
                have z0 : w2.cell? ⟨w1.heap.size, 0, none⟩ = some (strV pA) := by rw [Lib.cell_of_heap hX2]; rfl
                have z1 : w2.cell? ⟨w1.heap.size, 1, none⟩ = some (strV pB) := by rw [Lib.cell_of_heap hX2]; rfl
                have z2 : w2.cell? ⟨w1.heap.size, 2, none⟩ = some (.func (.func 54) #[] #[.pointer (some ⟨b, 0, none⟩)]) := by rw [Lib.cell_of_heap hX2]; rfl
                have hc2 := cell_later hb12 hc1
                have hpl : (⟨pA.toArray⟩ : ByteArray).size = 2 := rfl
                have hpl2 : (⟨pB.toArray⟩ : ByteArray).size = 2 := rfl
                clear HW2 hX2 hXX hbX
                go_wp2_with fail
                refine (K2.out _ hb2).mono ?_
                rintro e w3 ⟨rfl, b3⟩
                have hb3 := hb2.trans (b3.mono hb2.size)
                have y1 := cell_later b3 z1
                have y2 := cell_later b3 z2
                have hc3 := cell_later b3 hc2
                clear z0 z1 z2 hc2 hc1 hb12 hbx
                go_wp2_with fail
                refine (K3.out _ hb3).mono ?_
                rintro e w4 ⟨rfl, hw4⟩
                subst hw4
                have K5 := Lib.hid (fun (w' : World) (hb : Below w3.heap.size w3 w') => K4.out b w' (hb3.trans (hb.mono hb3.size)) (cell_later hb hc3))
                have enf := enters_first
                unfold Enters at enf
                go_wp2_with fail
                go_region_with (refine (K5.out _ (by first | exact Below.refl _ _ | exact (Below.refl _ _).drew)).mono ?_; rintro e w5 ⟨rfl, b5'⟩; have b5 : Below w3.heap.size w3 w5 := (by first | exact b5' | exact Below.trans (Below.drew (Below.refl w3.heap.size w3)) b5'); clear b5')
                all_goals
                  have hb5 := hb3.trans (b5.mono hb3.size)
                  have x1 := cell_later b5 y1
                  have RN := Lib.hid (KR.out w5 hb5)
                  clear K2 K3 K4 K5 kc y1 y2 hc3
                  go_wp2_with fail
                  refine RN.out.mono ?_
                  rintro e w6 ⟨rfl, b6⟩
                  have hb6 := hb5.trans (b6.mono hb5.size)
                  have x2 := cell_later b6 x1
                  go_wp2_with fail
                  go_returns
                  exact ⟨by have h := HC.out; subst h; rfl, hb6⟩
            · have HC := Lib.hid (show V = .tuple #[strV name, strV ((l.drop q).take t), .int .i64 ((q + t + 2 : Nat) : Int), .int .i64 0] by
                rw [← HV.out, if_neg (by rintro (h | h | h); · cases h
                                         · omega
                                         · exact hbad ⟨h.1, by omega⟩), Int.toNat_natCast])
              have hst := hsq.take t
              rw [← vB_take] at hst
              have KC := Lib.hid (fun (w' : World) (hb : Below w.heap.size w w') => conv_sees w' (some (ad.add q)) t (c - q) ((l.drop q).take t) (by simp; omega) (hst.below hb))
              have t4 : (q : Int) + (t : Int) ≤ (c : Int) := by omega
              have t5 : (q : Int) ≤ (q : Int) + (t : Int) := by omega
              have hw1 : IntKind.i64.wrap ((q : Int) + (t : Int)) = (q : Int) + (t : Int) := by rw [IntKind.wrap_i64]; omega
              have hw2 : IntKind.i64.wrap ((q : Int) + (t : Int) + 2) = (q : Int) + (t : Int) + 2 := by rw [IntKind.wrap_i64]; omega
              have hw3 : ((q : Int) + (t : Int)).toNat = q + t := by omega
              have hw4 : ((q : Int)).toNat = q := by omega
              have hw5 : q + t - q = t := by omega
              by_cases hqz : q = z
              · obtain rfl : t = 0 := by
                  by_cases h : t = 0
                  · exact h
                  · exact absurd ⟨hqz, by omega⟩ hbad
                have t2 : ((q : Int) == (z : Int)) = true := by simp; omega
                have t3 : ¬ ((0 : Int) < ((0 : Nat) : Int)) := by omega
                clear hsq HV hsr hbad hst hqz
                go_enter Tryd.func11, Tryd.ntmps11
                go_wp2_with fail
                refine (pMarks_any _).mono ?_
                rintro e w1 ⟨b, rfl, b1, hc1⟩
                have hbx := b1.alloc b1.size (.cells #[strV pA, strV pB, .func (.func 54) #[] #[.pointer (some ⟨b, 0, none⟩)]] 44)
                go_wp2_with fail
                go_region_with (go_at_call 25; refine (KP.out _ _ _ _ (HS.out _ (by first | exact ((hbx.alloc (by simp; have := b1.size; omega) _).drew) | exact ((hbx.alloc (by simp; have := b1.size; omega) _).drew).drew)) (by first | exact made_sees _ pA _ _ _ _ (by simp) | exact Sees.drw (made_sees _ pA _ _ _ _ (by simp)))).mono ?_; rintro e w2 ⟨rfl, hw2⟩; have HW2 := Lib.hid hw2; clear hw2)
                all_goals
                  have hXX : (w1.alloc (.cells #[strV pA, strV pB, .func (.func 54) #[] #[.pointer (some ⟨b, 0, none⟩)]] 44)).heap[w1.heap.size]? = some (.cells #[strV pA, strV pB, .func (.func 54) #[] #[.pointer (some ⟨b, 0, none⟩)]] 44) := by
                    show (w1.heap.push _)[w1.heap.size]? = _
                    exact Array.getElem?_push_size ..
                  have hbX : Below (w1.heap.size + 1) (w1.alloc (.cells #[strV pA, strV pB, .func (.func 54) #[] #[.pointer (some ⟨b, 0, none⟩)]] 44)) w2 := by
                    rw [HW2.out]
                    first | exact (((Below.refl _ _).alloc (by simp) _).drew) | exact (((Below.refl _ _).alloc (by simp) _).drew).drew
                  have hs1 := b1.size
                  have hb2 : Below w.heap.size w w2 := hbx.trans (hbX.mono (by omega))
                  have hb12 : Below w1.heap.size w1 w2 := ((Below.refl _ _).alloc (Nat.le_refl _) _).trans (hbX.mono (by omega))
                  have hX2 := (hbX.block w1.heap.size (by omega)).trans hXX
                  have z0 : w2.cell? ⟨w1.heap.size, 0, none⟩ = some (strV pA) := by rw [Lib.cell_of_heap hX2]; rfl
                  have z1 : w2.cell? ⟨w1.heap.size, 1, none⟩ = some (strV pB) := by rw [Lib.cell_of_heap hX2]; rfl
                  have z2 : w2.cell? ⟨w1.heap.size, 2, none⟩ = some (.func (.func 54) #[] #[.pointer (some ⟨b, 0, none⟩)]) := by rw [Lib.cell_of_heap hX2]; rfl
                  have hc2 := cell_later hb12 hc1
                  have hpl : (⟨pA.toArray⟩ : ByteArray).size = 2 := rfl
                  have hpl2 : (⟨pB.toArray⟩ : ByteArray).size = 2 := rfl
                  clear HW2 hX2 hXX hbX
                  go_wp2_with fail
                  refine (K2.out _ hb2).mono ?_
                  rintro e w3 ⟨rfl, b3⟩
                  have hb3 := hb2.trans (b3.mono hb2.size)
                  have y1 := cell_later b3 z1
                  have y2 := cell_later b3 z2
                  have hc3 := cell_later b3 hc2
                  clear z0 z1 z2 hc2 hc1 hb12 hbx
                  go_wp2_with fail
                  refine (K3.out _ hb3).mono ?_
                  rintro e w4 ⟨rfl, hw4⟩
                  subst hw4
                  have K5 := Lib.hid (fun (w' : World) (hb : Below w3.heap.size w3 w') => K4.out b w' (hb3.trans (hb.mono hb3.size)) (cell_later hb hc3))
                  have enf := enters_first
                  unfold Enters at enf
                  go_wp2_with fail
                  go_region_with (refine (K5.out _ (by first | exact Below.refl _ _ | exact (Below.refl _ _).drew)).mono ?_; rintro e w5 ⟨rfl, b5'⟩; have b5 : Below w3.heap.size w3 w5 := (by first | exact b5' | exact Below.trans (Below.drew (Below.refl w3.heap.size w3)) b5'); clear b5')
                  all_goals
                    have hb5 := hb3.trans (b5.mono hb3.size)
                    have x1 := cell_later b5 y1
                    have RN := Lib.hid (KR.out w5 hb5)
                    clear K2 K3 K4 K5 kc y1 y2 hc3
                    go_wp2_with fail
                    refine RN.out.mono ?_
                    rintro e w6 ⟨rfl, b6⟩
                    have hb6 := hb5.trans (b6.mono hb5.size)
                    have x2 := cell_later b6 x1
                    have kc5 := fun m => KC.out (w6.drewN m) (below_drw hb6 m)
                    go_wp2_with fail
                    go_quiet (fail)
                    go_wp2_with fail
                    go_returns
                    exact ⟨by have h := HC.out; subst h; rfl, below_drw hb6 _⟩
              · have t2 : ((q : Int) == (z : Int)) = false := by simp; omega
                clear hsq HV hsr hbad hst hqz
                go_enter Tryd.func11, Tryd.ntmps11
                go_wp2_with fail
                refine (pMarks_any _).mono ?_
                rintro e w1 ⟨b, rfl, b1, hc1⟩
                have hbx := b1.alloc b1.size (.cells #[strV pA, strV pB, .func (.func 54) #[] #[.pointer (some ⟨b, 0, none⟩)]] 44)
                go_wp2_with fail
                go_region_with (go_at_call 25; refine (KP.out _ _ _ _ (HS.out _ (by first | exact ((hbx.alloc (by simp; have := b1.size; omega) _).drew) | exact ((hbx.alloc (by simp; have := b1.size; omega) _).drew).drew)) (by first | exact made_sees _ pA _ _ _ _ (by simp) | exact Sees.drw (made_sees _ pA _ _ _ _ (by simp)))).mono ?_; rintro e w2 ⟨rfl, hw2⟩; have HW2 := Lib.hid hw2; clear hw2)
                all_goals
                  have hXX : (w1.alloc (.cells #[strV pA, strV pB, .func (.func 54) #[] #[.pointer (some ⟨b, 0, none⟩)]] 44)).heap[w1.heap.size]? = some (.cells #[strV pA, strV pB, .func (.func 54) #[] #[.pointer (some ⟨b, 0, none⟩)]] 44) := by
                    show (w1.heap.push _)[w1.heap.size]? = _
                    exact Array.getElem?_push_size ..
                  have hbX : Below (w1.heap.size + 1) (w1.alloc (.cells #[strV pA, strV pB, .func (.func 54) #[] #[.pointer (some ⟨b, 0, none⟩)]] 44)) w2 := by
                    rw [HW2.out]
                    first | exact (((Below.refl _ _).alloc (by simp) _).drew) | exact (((Below.refl _ _).alloc (by simp) _).drew).drew
                  have hs1 := b1.size
                  have hb2 : Below w.heap.size w w2 := hbx.trans (hbX.mono (by omega))
                  have hb12 : Below w1.heap.size w1 w2 := ((Below.refl _ _).alloc (Nat.le_refl _) _).trans (hbX.mono (by omega))
                  have hX2 := (hbX.block w1.heap.size (by omega)).trans hXX
                  have z0 : w2.cell? ⟨w1.heap.size, 0, none⟩ = some (strV pA) := by rw [Lib.cell_of_heap hX2]; rfl
                  have z1 : w2.cell? ⟨w1.heap.size, 1, none⟩ = some (strV pB) := by rw [Lib.cell_of_heap hX2]; rfl
                  have z2 : w2.cell? ⟨w1.heap.size, 2, none⟩ = some (.func (.func 54) #[] #[.pointer (some ⟨b, 0, none⟩)]) := by rw [Lib.cell_of_heap hX2]; rfl
                  have hc2 := cell_later hb12 hc1
                  have hpl : (⟨pA.toArray⟩ : ByteArray).size = 2 := rfl
                  have hpl2 : (⟨pB.toArray⟩ : ByteArray).size = 2 := rfl
                  clear HW2 hX2 hXX hbX
                  go_wp2_with fail
                  refine (K2.out _ hb2).mono ?_
                  rintro e w3 ⟨rfl, b3⟩
                  have hb3 := hb2.trans (b3.mono hb2.size)
                  have y1 := cell_later b3 z1
                  have y2 := cell_later b3 z2
                  have hc3 := cell_later b3 hc2
                  clear z0 z1 z2 hc2 hc1 hb12 hbx
                  go_wp2_with fail
                  refine (K3.out _ hb3).mono ?_
                  rintro e w4 ⟨rfl, hw4⟩
                  subst hw4
                  have K5 := Lib.hid (fun (w' : World) (hb : Below w3.heap.size w3 w') => K4.out b w' (hb3.trans (hb.mono hb3.size)) (cell_later hb hc3))
                  have enf := enters_first
                  unfold Enters at enf
                  go_wp2_with fail
                  go_region_with (refine (K5.out _ (by first | exact Below.refl _ _ | exact (Below.refl _ _).drew)).mono ?_; rintro e w5 ⟨rfl, b5'⟩; have b5 : Below w3.heap.size w3 w5 := (by first | exact b5' | exact Below.trans (Below.drew (Below.refl w3.heap.size w3)) b5'); clear b5')
                  all_goals
                    have hb5 := hb3.trans (b5.mono hb3.size)
                    have x1 := cell_later b5 y1
                    have RN := Lib.hid (KR.out w5 hb5)
                    clear K2 K3 K4 K5 kc y1 y2 hc3
                    go_wp2_with fail
                    refine RN.out.mono ?_
                    rintro e w6 ⟨rfl, b6⟩
                    have hb6 := hb5.trans (b6.mono hb5.size)
                    have x2 := cell_later b6 x1
                    have kc5 := fun m => KC.out (w6.drewN m) (below_drw hb6 m)
                    go_wp2_with fail
                    go_quiet (fail)
                    go_wp2_with fail
                    go_returns
                    exact ⟨by have h := HC.out; subst h; rfl, below_drw hb6 _⟩
end Go.Proofs.YtggllkcoabeejaaDoor
