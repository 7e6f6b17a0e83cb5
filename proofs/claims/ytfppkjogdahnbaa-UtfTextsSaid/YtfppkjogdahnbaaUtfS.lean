/- The walk of UtfTexts. -/
import Derived.Test.YtfppkjogdahnbaaUtfR
namespace Go.Proofs.Ytfppkjogdahnbaa
open Go.ChangeShapes Go.WideShapes Go.ChangeAt Go.RowKit
set_option linter.unusedVariables false

/-- Ints as values. -/
def vN (l : List Int) : List Value := l.map (Value.int .i64)
theorem runes_good (A : Option Addr) (n c q : Nat) (l : List UInt8) (xs : List Int) (hlen : l.length = n) (hnc : n ≤ c) (hcap : c ≤ 9223372036854775807) (hsmall : n ≤ 17592186044416) (h : badS l = none) (hx : runesS l = xs) (hq : xs.length = q) (w : World) (hs : Sees w A (vB l)) :
    Calls Try.prog 34 #[.slice A n c] w fun e W' => ∃ A' c', e = .returned (.tuple #[.slice A' q c', .int .i64 0]) ∧ Sees W' A' (vN xs) ∧ Below w.heap.size w W' :=
  (runes_any A n c l hlen hnc hcap hsmall w hs).mono fun e W' ⟨h1, _, hb⟩ => by
    obtain ⟨v, he, ho⟩ := h1 h
    rw [hx, hq] at ho
    obtain ⟨A', c', rfl⟩ := ownsRow_form ho
    exact ⟨A', c', he, sees_own ho, hb⟩
theorem runes_bad (A : Option Addr) (n c : Nat) (l : List UInt8) (hlen : l.length = n) (hnc : n ≤ c) (hcap : c ≤ 9223372036854775807) (hsmall : n ≤ 17592186044416) (h : badS l ≠ none) (w : World) (hs : Sees w A (vB l)) :
    Calls Try.prog 34 #[.slice A n c] w fun e W' => e = .returned (.tuple #[.slice none 0 0, .int .i64 5]) ∧ Below w.heap.size w W' :=
  (runes_any A n c l hlen hnc hcap hsmall w hs).mono fun e W' ⟨_, h2, hb⟩ => ⟨h2 h, hb⟩
theorem rrunes_g (A : Option Addr) (n c q : Nat) (l : List UInt8) (xs : List Int) (hlen : l.length = n) (hsmall : n ≤ 17592186044416) (h : badS l = none) (hx : runesS l = xs) (hq : xs.length = q) (w : World) (hs : Sees w A (vB l)) :
    Calls Try.prog 31 #[.slice A n c] w fun e W' => ∃ A' c', e = .returned (.tuple #[.slice A' q c', .int .i64 (-1)]) ∧ Sees W' A' (vN xs) ∧ Below w.heap.size w W' := by
  have := rrunes_good A n c l hlen hsmall w hs h
  rw [hx, hq] at this
  exact this
theorem len_good (A : Option Addr) (n c q : Nat) (l : List UInt8) (xs : List Int) (hlen : l.length = n) (hnc : n ≤ c) (hcap : c ≤ 9223372036854775807) (h : badS l = none) (hx : runesS l = xs) (hq : xs.length = q) (w : World) (hs : Sees w A (vB l)) :
    Calls Try.prog 35 #[.slice A n c] w fun e W' => e = .returned (.tuple #[.int .i64 q, .int .i64 0]) ∧ Below w.heap.size w W' := by
  have := len_any A n c l hlen hnc hcap w hs
  unfold lenV at this
  rw [if_pos h, hx, hq] at this
  exact this
theorem len_bad (A : Option Addr) (n c : Nat) (l : List UInt8) (hlen : l.length = n) (hnc : n ≤ c) (hcap : c ≤ 9223372036854775807) (h : badS l ≠ none) (w : World) (hs : Sees w A (vB l)) :
    Calls Try.prog 35 #[.slice A n c] w fun e W' => e = .returned (.tuple #[.int .i64 0, .int .i64 5]) ∧ Below w.heap.size w W' := by
  have := len_any A n c l hlen hnc hcap w hs
  unfold lenV at this
  rw [if_neg h] at this
  exact this
theorem ints_same (A B : Option Addr) (n c d : Nat) (xs : List Int) (hx : xs.length = n) (hm : n ≤ 9223372036854775800) (w : World) (ha : Sees w A (vN xs)) (hb : Sees w B (vN xs)) :
    Calls Try.prog 36 #[.slice A n c, .slice B n d] w fun e w' => e = .returned (.bool true) ∧ Below w.heap.size w w' :=
  (ints_any A B n n c d xs xs w hx hx hm ha hb).mono fun e W' ⟨he, hb⟩ => ⟨by rw [he]; simp, hb⟩
theorem text_good (A : Option Addr) (n c p : Nat) (xs : List Int) (t : List UInt8) (hlen : xs.length = n) (hsmall : n ≤ 1099511627776) (h : okT xs = true) (ht : textS xs = t) (hp : t.length = p) (w : World) (hs : Sees w A (vN xs)) :
    Calls Try.prog 37 #[.slice A n c] w fun e W' => ∃ A' c', e = .returned (.tuple #[.slice A' p c', .int .i64 0]) ∧ p ≤ c' ∧ c' ≤ 9223372036854775807 ∧ Sees W' A' (vB t) ∧ Below w.heap.size w W' :=
  (text_any A n c xs hlen hsmall w hs).mono fun e W' ⟨h1, _, hb⟩ => by
    obtain ⟨v, he, ho⟩ := h1 h
    rw [ht, hp] at ho
    obtain ⟨A', c', rfl⟩ := ownsRow_form ho
    have hc := own_cap' ho
    exact ⟨A', c', he, hc.1, hc.2, sees_own ho, hb⟩
theorem text_bad (A : Option Addr) (n c : Nat) (xs : List Int) (hlen : xs.length = n) (hsmall : n ≤ 1099511627776) (h : okT xs = false) (w : World) (hs : Sees w A (vN xs)) :
    Calls Try.prog 37 #[.slice A n c] w fun e W' => e = .returned (.tuple #[.slice none 0 0, .int .i64 6]) ∧ Below w.heap.size w W' :=
  (text_any A n c xs hlen hsmall w hs).mono fun e W' ⟨_, h2, hb⟩ => ⟨h2 h, hb⟩
theorem rtext_good (A : Option Addr) (n c p : Nat) (xs : List Int) (t : List UInt8) (hlen : xs.length = n) (hsmall : n ≤ 1099511627776) (h : okT xs = true) (ht : textS xs = t) (hp : t.length = p) (w : World) (hs : Sees w A (vN xs)) :
    Calls Try.prog 38 #[.slice A n c] w fun e W' => ∃ A' c', e = .returned (.tuple #[.slice A' p c', .bool true]) ∧ Sees W' A' (vB t) ∧ Below w.heap.size w W' :=
  (rtext_any A n c xs hlen hsmall w hs).mono fun e W' ⟨h1, _, hb⟩ => by
    obtain ⟨v, he, ho⟩ := h1 h
    rw [ht, hp] at ho
    obtain ⟨A', c', rfl⟩ := ownsRow_form ho
    exact ⟨A', c', he, sees_own ho, hb⟩
theorem rtext_bad (A : Option Addr) (n c : Nat) (xs : List Int) (hlen : xs.length = n) (hsmall : n ≤ 1099511627776) (h : okT xs = false) (w : World) (hs : Sees w A (vN xs)) :
    Calls Try.prog 38 #[.slice A n c] w fun e W' => e = .returned (.tuple #[.slice none 0 0, .bool false]) ∧ Below w.heap.size w W' :=
  (rtext_any A n c xs hlen hsmall w hs).mono fun e W' ⟨_, h2, hb⟩ => ⟨h2 h, hb⟩

theorem bel2 {a b c : World} (h : Below a.heap.size a b) (k : Below b.heap.size b c) : Below a.heap.size a c := h.trans (k.mono h.size)

set_option maxRecDepth 100000 in
set_option maxHeartbeats 4000000 in
theorem utfTexts_far (A B : Option Addr) (n c m d : Nat) (w : World) (h : 300 < n ∨ 300 < m) :
    Calls Try.prog 8 #[.slice A n c, .slice B m d] w fun e w' => e = .returned (.bool true) ∧ Below w.heap.size w w' := by
  by_cases h1 : 300 < n
  · go_enter Try.func8, Try.ntmps8
    go_wp2_with (go_at_call 28; refine (live02_any _).mono ?_; rintro e w3 ⟨rfl, hb3⟩)
    go_ret
    exact ⟨rfl, hb3⟩
  · have h2 : 300 < m := by omega
    clear h
    go_enter Try.func8, Try.ntmps8
    go_wp2_with (go_at_call 28; refine (live02_any _).mono ?_; rintro e w3 ⟨rfl, hb3⟩)
    go_ret
    exact ⟨rfl, hb3⟩

set_option maxRecDepth 100000 in
set_option maxHeartbeats 8000000 in
theorem utfTexts_gg (A B : Option Addr) (n c m d : Nat) (l : List UInt8) (ns : List Int) (w : World) (hlen : l.length = n) (hnc : n ≤ c) (hcap : c ≤ 9223372036854775807) (hn : n ≤ 300) (hs : Sees w A (vB l))
    (hm : ns.length = m) (hm3 : m ≤ 300) (hb : Sees w B (vN ns)) (hbad : badS l = none) (hok : okT ns = true) :
    Calls Try.prog 8 #[.slice A n c, .slice B m d] w fun e w' => e = .returned (.bool true) ∧ Below w.heap.size w w' := by
  obtain ⟨q, hq⟩ : ∃ q, (runesS l).length = q := ⟨_, rfl⟩
  have hq3 : q ≤ 300 := by
    have := stepsS_len l
    rw [← hq]; unfold runesS; rw [List.length_map]; omega
  obtain ⟨tb1, tb2⟩ := text_back hbad
  obtain ⟨rb1, rb2⟩ := runes_back hok
  have htl := textS_len ns
  obtain ⟨p, hp⟩ : ∃ p, (textS ns).length = p := ⟨_, rfl⟩
  have HR1 := Lib.hid (fun W hs => runes_good A n c q l (runesS l) hlen hnc hcap (by omega) hbad rfl hq W hs)
  have HL1 := Lib.hid (fun W hs => len_good A n c q l (runesS l) hlen hnc hcap hbad rfl hq W hs)
  have HQ1 := Lib.hid (fun W hs => rrunes_g A n c q l (runesS l) hlen (by omega) hbad rfl hq W hs)
  have HI1 := Lib.hid (fun A B c d W ha hb => ints_same A B q c d (runesS l) hq (by omega) W ha hb)
  have HT1 := Lib.hid (fun A c W hs => text_good A q c n (runesS l) l hq (by omega) tb2 tb1 hlen W hs)
  have HT2 := Lib.hid (fun W hs => text_good B m d p ns (textS ns) hm (by omega) hok rfl hp W hs)
  have HT3 := Lib.hid (fun W hs => rtext_good B m d p ns (textS ns) hm (by omega) hok rfl hp W hs)
  have HR2 := Lib.hid (fun A c h1 h2 W hs => runes_good A p c m (textS ns) ns hp h1 h2 (by omega) rb1 rb2 hm W hs)
  have HI2 := Lib.hid (fun A B c d W ha hb => ints_same A B m c d ns hm (by omega) W ha hb)
  have K1 := Lib.hid (fun W A c hs => conv_sees W A n c l hlen hs)
  have K2 := Lib.hid (fun W A c hs => conv_sees W A p c (textS ns) hp hs)
  have S1 := Lib.hid hs
  have S2 := Lib.hid hb
  obtain ⟨tx, htx⟩ : ∃ tx, textS ns = tx := ⟨_, rfl⟩
  obtain ⟨xs, hxs⟩ : ∃ xs, runesS l = xs := ⟨_, rfl⟩
  rw [hxs] at HR1 HQ1 HI1 HT1
  rw [htx] at HT2 HT3 HR2 K2
  clear hs hb hlen hm hq hp hbad hok tb1 tb2 rb1 rb2 htl htx hxs
  go_enter Try.func8, Try.ntmps8
  go_wp2_with (first
    | (go_at_call 34; (with_reducible refine (HR1.out _ S1.out).mono ?_); rintro e w1 ⟨A1, c1, rfl, s1, b1⟩; have X1 := Lib.hid s1; clear s1)
    | (go_at_call 35; (with_reducible refine (HL1.out _ (S1.out.below b1)).mono ?_); rintro e w2 ⟨rfl, b2⟩; have B2 := Lib.hid (bel2 b1 b2))
    | (go_at_call 31; (with_reducible refine (HQ1.out _ (S1.out.below B2.out)).mono ?_); rintro e w3 ⟨A3, c3, rfl, s3, b3⟩; have X3 := Lib.hid s3; clear s3; have Y3 := Lib.hid ((X1.out.below b2).below b3); have B3 := Lib.hid (bel2 B2.out b3))
    | (go_at_call 36; (with_reducible refine (HI1.out _ _ _ _ _ Y3.out X3.out).mono ?_); rintro e w4 ⟨rfl, b4⟩; have Y4 := Lib.hid (Y3.out.below b4); have B4 := Lib.hid (bel2 B3.out b4))
    | (go_at_call 37; (with_reducible refine (HT1.out _ _ _ Y4.out).mono ?_); rintro e w5 ⟨A5, c5, rfl, h51, h52, s5, b5⟩; have B5 := Lib.hid (bel2 B4.out b5); have k1 := K1.out w5 A5 c5 s5; have k2 := K1.out w5 A c (S1.out.below B5.out); clear s5 h51 h52)
    | (go_at_call 37; (with_reducible refine (HT2.out _ (S2.out.below B5.out)).mono ?_); rintro e w6 ⟨A6, c6, rfl, h61, h62, s6, b6⟩; clear k1 k2; have B6 := Lib.hid (bel2 B5.out b6); have X6 := Lib.hid s6; clear s6)
    | (go_at_call 38; (with_reducible refine (HT3.out _ (S2.out.below B6.out)).mono ?_); rintro e w7 ⟨A7, c7, rfl, s7, b7⟩; have B7 := Lib.hid (bel2 B6.out b7); have X7 := Lib.hid s7; clear s7; have Y6 := Lib.hid (X6.out.below b7))
    | (go_at_call 34; (with_reducible refine (HR2.out _ _ h61 h62 _ Y6.out).mono ?_); rintro e w8 ⟨A8, c8, rfl, s8, b8⟩; have B8 := Lib.hid (bel2 B7.out b8); have X8 := Lib.hid s8; clear s8; have k3 := K2.out w8 A6 c6 (Y6.out.below b8); have k4 := K2.out w8 A7 c7 (X7.out.below b8))
    | (go_at_call 36; (with_reducible refine (HI2.out _ _ _ _ _ X8.out (S2.out.below B8.out)).mono ?_); rintro e w9 ⟨rfl, b9⟩; have B9 := Lib.hid (bel2 B8.out b9))
    | (go_at_call 28; refine (live02_any _).mono ?_; rintro e w10 ⟨rfl, b10⟩))
  go_ret
  exact ⟨rfl, bel2 B9.out b10⟩

set_option maxRecDepth 100000 in
set_option maxHeartbeats 8000000 in
theorem utfTexts_gb (A B : Option Addr) (n c m d : Nat) (l : List UInt8) (ns : List Int) (w : World) (hlen : l.length = n) (hnc : n ≤ c) (hcap : c ≤ 9223372036854775807) (hn : n ≤ 300) (hs : Sees w A (vB l))
    (hm : ns.length = m) (hm3 : m ≤ 300) (hb : Sees w B (vN ns)) (hbad : badS l = none) (hok : okT ns = false) :
    Calls Try.prog 8 #[.slice A n c, .slice B m d] w fun e w' => e = .returned (.bool true) ∧ Below w.heap.size w w' := by
  obtain ⟨q, hq⟩ : ∃ q, (runesS l).length = q := ⟨_, rfl⟩
  have hq3 : q ≤ 300 := by
    have := stepsS_len l
    rw [← hq]; unfold runesS; rw [List.length_map]; omega
  obtain ⟨tb1, tb2⟩ := text_back hbad
  have HR1 := Lib.hid (fun W hs => runes_good A n c q l (runesS l) hlen hnc hcap (by omega) hbad rfl hq W hs)
  have HL1 := Lib.hid (fun W hs => len_good A n c q l (runesS l) hlen hnc hcap hbad rfl hq W hs)
  have HQ1 := Lib.hid (fun W hs => rrunes_g A n c q l (runesS l) hlen (by omega) hbad rfl hq W hs)
  have HI1 := Lib.hid (fun A B c d W ha hb => ints_same A B q c d (runesS l) hq (by omega) W ha hb)
  have HT1 := Lib.hid (fun A c W hs => text_good A q c n (runesS l) l hq (by omega) tb2 tb1 hlen W hs)
  have K1 := Lib.hid (fun W A c hs => conv_sees W A n c l hlen hs)
  obtain ⟨xs, hxs⟩ : ∃ xs, runesS l = xs := ⟨_, rfl⟩
  rw [hxs] at HR1 HQ1 HI1 HT1
  clear hq tb1 tb2 hxs
  have HT2 := Lib.hid (fun W hs => text_bad B m d ns hm (by omega) hok W hs)
  have HT3 := Lib.hid (fun W hs => rtext_bad B m d ns hm (by omega) hok W hs)
  have S1 := Lib.hid hs
  have S2 := Lib.hid hb
  clear hs hb hlen hm hbad hok
  go_enter Try.func8, Try.ntmps8
  go_wp2_with (first
    | (go_at_call 34; (with_reducible refine (HR1.out _ S1.out).mono ?_); rintro e w1 ⟨A1, c1, rfl, s1, b1⟩; have X1 := Lib.hid s1; clear s1)
    | (go_at_call 35; (with_reducible refine (HL1.out _ (S1.out.below b1)).mono ?_); rintro e w2 ⟨rfl, b2⟩; have B2 := Lib.hid (bel2 b1 b2))
    | (go_at_call 31; (with_reducible refine (HQ1.out _ (S1.out.below B2.out)).mono ?_); rintro e w3 ⟨A3, c3, rfl, s3, b3⟩; have X3 := Lib.hid s3; clear s3; have Y3 := Lib.hid ((X1.out.below b2).below b3); have B3 := Lib.hid (bel2 B2.out b3))
    | (go_at_call 36; (with_reducible refine (HI1.out _ _ _ _ _ Y3.out X3.out).mono ?_); rintro e w4 ⟨rfl, b4⟩; have Y4 := Lib.hid (Y3.out.below b4); have B4 := Lib.hid (bel2 B3.out b4))
    | (go_at_call 37; (with_reducible refine (HT1.out _ _ _ Y4.out).mono ?_); rintro e w5 ⟨A5, c5, rfl, h51, h52, s5, b5⟩; have B5 := Lib.hid (bel2 B4.out b5); have k1 := K1.out w5 A5 c5 s5; have k2 := K1.out w5 A c (S1.out.below B5.out); clear s5 h51 h52)
    | (go_at_call 37; (with_reducible refine (HT2.out _ (S2.out.below B5.out)).mono ?_); rintro e w6 ⟨rfl, b6⟩; clear k1 k2; have B6 := Lib.hid (bel2 B5.out b6))
    | (go_at_call 38; (with_reducible refine (HT3.out _ (S2.out.below B6.out)).mono ?_); rintro e w7 ⟨rfl, b7⟩; have B7 := Lib.hid (bel2 B6.out b7))
    | (go_at_call 28; refine (live02_any _).mono ?_; rintro e w10 ⟨rfl, b10⟩))
  go_ret
  exact ⟨rfl, bel2 B7.out b10⟩

set_option maxRecDepth 100000 in
set_option maxHeartbeats 8000000 in
theorem utfTexts_bg (A B : Option Addr) (n c m d : Nat) (l : List UInt8) (ns : List Int) (w : World) (hlen : l.length = n) (hnc : n ≤ c) (hcap : c ≤ 9223372036854775807) (hn : n ≤ 300) (hs : Sees w A (vB l))
    (hm : ns.length = m) (hm3 : m ≤ 300) (hb : Sees w B (vN ns)) (k : Nat) (hbad : badS l = some k) (hok : okT ns = true) :
    Calls Try.prog 8 #[.slice A n c, .slice B m d] w fun e w' => e = .returned (.bool true) ∧ Below w.heap.size w w' := by
  have hne : badS l ≠ none := by rw [hbad]; simp
  have HR1 := Lib.hid (fun W hs => runes_bad A n c l hlen hnc hcap (by omega) hne W hs)
  have HL1 := Lib.hid (fun W hs => len_bad A n c l hlen hnc hcap hne W hs)
  have HQ1 := Lib.hid (fun W hs => rrunes_bad A n c k l hlen (by omega) W hs hbad)
  clear hne
  obtain ⟨rb1, rb2⟩ := runes_back hok
  have htl := textS_len ns
  obtain ⟨p, hp⟩ : ∃ p, (textS ns).length = p := ⟨_, rfl⟩
  have HT2 := Lib.hid (fun W hs => text_good B m d p ns (textS ns) hm (by omega) hok rfl hp W hs)
  have HT3 := Lib.hid (fun W hs => rtext_good B m d p ns (textS ns) hm (by omega) hok rfl hp W hs)
  have HR2 := Lib.hid (fun A c h1 h2 W hs => runes_good A p c m (textS ns) ns hp h1 h2 (by omega) rb1 rb2 hm W hs)
  have HI2 := Lib.hid (fun A B c d W ha hb => ints_same A B m c d ns hm (by omega) W ha hb)
  have K2 := Lib.hid (fun W A c hs => conv_sees W A p c (textS ns) hp hs)
  obtain ⟨tx, htx⟩ : ∃ tx, textS ns = tx := ⟨_, rfl⟩
  rw [htx] at HT2 HT3 HR2 K2
  clear hp rb1 rb2 htl htx
  have S1 := Lib.hid hs
  have S2 := Lib.hid hb
  clear hs hb hlen hm hbad hok
  go_enter Try.func8, Try.ntmps8
  go_wp2_with (first
    | (go_at_call 34; (with_reducible refine (HR1.out _ S1.out).mono ?_); rintro e w1 ⟨rfl, b1⟩)
    | (go_at_call 35; (with_reducible refine (HL1.out _ (S1.out.below b1)).mono ?_); rintro e w2 ⟨rfl, b2⟩; have B2 := Lib.hid (bel2 b1 b2))
    | (go_at_call 31; (with_reducible refine (HQ1.out _ (S1.out.below B2.out)).mono ?_); rintro e w3 ⟨rfl, b3⟩; have B3 := Lib.hid (bel2 B2.out b3))
    | (go_at_call 37; (with_reducible refine (HT2.out _ (S2.out.below B3.out)).mono ?_); rintro e w6 ⟨A6, c6, rfl, h61, h62, s6, b6⟩; have B6 := Lib.hid (bel2 B3.out b6); have X6 := Lib.hid s6; clear s6)
    | (go_at_call 38; (with_reducible refine (HT3.out _ (S2.out.below B6.out)).mono ?_); rintro e w7 ⟨A7, c7, rfl, s7, b7⟩; have B7 := Lib.hid (bel2 B6.out b7); have X7 := Lib.hid s7; clear s7; have Y6 := Lib.hid (X6.out.below b7))
    | (go_at_call 34; (with_reducible refine (HR2.out _ _ h61 h62 _ Y6.out).mono ?_); rintro e w8 ⟨A8, c8, rfl, s8, b8⟩; have B8 := Lib.hid (bel2 B7.out b8); have X8 := Lib.hid s8; clear s8; have k3 := K2.out w8 A6 c6 (Y6.out.below b8); have k4 := K2.out w8 A7 c7 (X7.out.below b8))
    | (go_at_call 36; (with_reducible refine (HI2.out _ _ _ _ _ X8.out (S2.out.below B8.out)).mono ?_); rintro e w9 ⟨rfl, b9⟩; have B9 := Lib.hid (bel2 B8.out b9))
    | (go_at_call 28; refine (live02_any _).mono ?_; rintro e w10 ⟨rfl, b10⟩))
  go_ret
  exact ⟨rfl, bel2 B9.out b10⟩

set_option maxRecDepth 100000 in
set_option maxHeartbeats 8000000 in
theorem utfTexts_bb (A B : Option Addr) (n c m d : Nat) (l : List UInt8) (ns : List Int) (w : World) (hlen : l.length = n) (hnc : n ≤ c) (hcap : c ≤ 9223372036854775807) (hn : n ≤ 300) (hs : Sees w A (vB l))
    (hm : ns.length = m) (hm3 : m ≤ 300) (hb : Sees w B (vN ns)) (k : Nat) (hbad : badS l = some k) (hok : okT ns = false) :
    Calls Try.prog 8 #[.slice A n c, .slice B m d] w fun e w' => e = .returned (.bool true) ∧ Below w.heap.size w w' := by
  have hne : badS l ≠ none := by rw [hbad]; simp
  have HR1 := Lib.hid (fun W hs => runes_bad A n c l hlen hnc hcap (by omega) hne W hs)
  have HL1 := Lib.hid (fun W hs => len_bad A n c l hlen hnc hcap hne W hs)
  have HQ1 := Lib.hid (fun W hs => rrunes_bad A n c k l hlen (by omega) W hs hbad)
  clear hne
  have HT2 := Lib.hid (fun W hs => text_bad B m d ns hm (by omega) hok W hs)
  have HT3 := Lib.hid (fun W hs => rtext_bad B m d ns hm (by omega) hok W hs)
  have S1 := Lib.hid hs
  have S2 := Lib.hid hb
  clear hs hb hlen hm hbad hok
  go_enter Try.func8, Try.ntmps8
  go_wp2_with (first
    | (go_at_call 34; (with_reducible refine (HR1.out _ S1.out).mono ?_); rintro e w1 ⟨rfl, b1⟩)
    | (go_at_call 35; (with_reducible refine (HL1.out _ (S1.out.below b1)).mono ?_); rintro e w2 ⟨rfl, b2⟩; have B2 := Lib.hid (bel2 b1 b2))
    | (go_at_call 31; (with_reducible refine (HQ1.out _ (S1.out.below B2.out)).mono ?_); rintro e w3 ⟨rfl, b3⟩; have B3 := Lib.hid (bel2 B2.out b3))
    | (go_at_call 37; (with_reducible refine (HT2.out _ (S2.out.below B3.out)).mono ?_); rintro e w6 ⟨rfl, b6⟩; have B6 := Lib.hid (bel2 B3.out b6))
    | (go_at_call 38; (with_reducible refine (HT3.out _ (S2.out.below B6.out)).mono ?_); rintro e w7 ⟨rfl, b7⟩; have B7 := Lib.hid (bel2 B6.out b7))
    | (go_at_call 28; refine (live02_any _).mono ?_; rintro e w10 ⟨rfl, b10⟩))
  go_ret
  exact ⟨rfl, bel2 B7.out b10⟩

theorem utfTexts_any (A B : Option Addr) (n c m d : Nat) (l : List UInt8) (ns : List Int) (w : World) (hlen : l.length = n) (hnc : n ≤ c) (hcap : c ≤ 9223372036854775807) (hs : Sees w A (vB l))
    (hm : ns.length = m) (hb : Sees w B (vN ns)) :
    Calls Try.prog 8 #[.slice A n c, .slice B m d] w fun e w' => e = .returned (.bool true) ∧ Below w.heap.size w w' := by
  by_cases h : 300 < n ∨ 300 < m
  · exact utfTexts_far A B n c m d w h
  cases hbad : badS l with
  | none =>
    cases hok : okT ns with
    | true => exact utfTexts_gg A B n c m d l ns w hlen hnc hcap (by omega) hs hm (by omega) hb hbad hok
    | false => exact utfTexts_gb A B n c m d l ns w hlen hnc hcap (by omega) hs hm (by omega) hb hbad hok
  | some k =>
    cases hok : okT ns with
    | true => exact utfTexts_bg A B n c m d l ns w hlen hnc hcap (by omega) hs hm (by omega) hb k hbad hok
    | false => exact utfTexts_bb A B n c m d l ns w hlen hnc hcap (by omega) hs hm (by omega) hb k hbad hok
/-- Bytes that came in, as the shells tell of them. -/
theorem sees_bytes {w : World} {x : Addr} {len cap : Nat} {zs : List Int} (hz : zs.length = cap) (hl : len ≤ cap) (hc : ∀ i, i < zs.length → w.cell? (x.add i) = some (.int .u8 (zs.getD i 0)))
    (hw : ∀ n ∈ zs, (Lit.int .u8 n).wf = true) : ∃ l : List UInt8, l.length = len ∧ Sees w (some x) (vB l) := by
  obtain ⟨h1, h2⟩ := sees_row hz hl hc
  refine ⟨(zs.take len).map fun z => UInt8.ofNat z.toNat, by rw [List.length_map, h1], ?_⟩
  have e : vB ((zs.take len).map fun z => UInt8.ofNat z.toNat) = (zs.take len).map (Value.int .u8) := by
    unfold vB
    rw [List.map_map]
    apply List.map_congr_left
    intro z hz
    have := bounds_u8 (hw z (List.mem_of_mem_take hz))
    show Value.int .u8 _ = _
    rw [ofNat_toNat (by omega), Int.toNat_of_nonneg this.1]
  rw [e]
  exact h2
end Go.Proofs.Ytfppkjogdahnbaa
