/- References: Text; the walk of CrefTexts. -/
import Derived.Test.YtncoldgkljnbeaaDoorCrh
import Derived.Test.YtncoldgkljnbeaaDoorEse
import Derived.Test.YtncoldgkljnbeaaDoorEsf
import Derived.Test.YtncoldgkljnbeaaDoorIto
namespace Go.Proofs.YtncoldgkljnbeaaDoor
open Go.ChangeShapes Go.WideShapes Go.ChangeAt Go.RowKit
set_option linter.unusedVariables false
set_option maxRecDepth 100000

/-- A reference in digits of base 10. -/
def txtL (n : Nat) : List UInt8 := 38 :: 35 :: Lib.decDigits n ++ [59]
theorem ret_st {a b : ByteArray} {x : Int} (h : a = b) : Ending.returned (.tuple #[.string a, .int .i64 x]) = .returned (.tuple #[.string b, .int .i64 x]) := by rw [h]
theorem txt_str (D : List UInt8) : (⟨#[38, 35]⟩ : ByteArray) ++ ⟨D.toArray⟩ ++ ⟨#[59]⟩ = ⟨(38 :: 35 :: D ++ [59]).toArray⟩ := by
  exact (congrArg (· ++ (⟨#[59]⟩ : ByteArray)) (str_app [38, 35] D)).trans (str_app _ [59])
theorem dec_le (n : Nat) (hn : n ≤ 9223372036854775807) : (Lib.decDigits n).length ≤ 21 := by
  have := Lib.itoa_length_le (n : Int) (by omega) (by omega)
  rwa [Lib.itoa_nonneg] at this
theorem dec_digits (n : Nat) : (∀ d ∈ Lib.decDigits n, 48 ≤ d.toNat ∧ d.toNat ≤ 57) ∧ dec10 (Lib.decDigits n) 0 = n ∧ Lib.decDigits n ≠ [] := by
  induction n using Nat.strongRecOn with
  | ind n ih =>
    rw [Lib.decDigits]
    by_cases h : n < 10
    · rw [dif_pos h]
      have e : (UInt8.ofNat (48 + n)).toNat = 48 + n := by simp; omega
      refine ⟨fun d hd => ?_, ?_, by simp⟩
      · obtain rfl : d = UInt8.ofNat (48 + n) := by simpa using hd
        rw [e]; omega
      · show 0 * 10 + ((UInt8.ofNat (48 + n)).toNat - 48) = n
        rw [e]; omega
    · rw [dif_neg h]
      obtain ⟨i1, i2, i3⟩ := ih (n / 10) (by omega)
      have e : (UInt8.ofNat (48 + n % 10)).toNat = 48 + n % 10 := by simp; omega
      refine ⟨fun d hd => ?_, ?_, by simp⟩
      · rcases List.mem_append.1 hd with hd | hd
        · exact i1 d hd
        · obtain rfl : d = UInt8.ofNat (48 + n % 10) := by simpa using hd
          rw [e]; omega
      · unfold dec10 at i2 ⊢
        rw [List.foldl_append, i2]
        show n / 10 * 10 + ((UInt8.ofNat (48 + n % 10)).toNat - 48) = n
        rw [e]; omega
theorem txt_read (n : Nat) (hc : hasT charT (n : Int) = true) : chV (txtL n) 0 = .tuple #[.int .i64 (n : Int), .int .i64 ((txtL n).length : Nat), .int .i64 0] := by
  obtain ⟨h1, h2, h3⟩ := dec_digits n
  have := ch_mid [] [] (Lib.decDigits n) h3 (fun j hj => by
    have := h1 _ (List.getElem_mem hj)
    unfold byteAt
    rwa [List.getElem?_eq_getElem hj]) (by rw [h2]; exact hc)
  rw [h2, List.nil_append, List.append_nil] at this
  show chV (38 :: 35 :: Lib.decDigits n ++ [59]) ((0 : Nat) : Int) = _
  have hl : (txtL n).length = ([] : List UInt8).length + (Lib.decDigits n).length + 3 := by unfold txtL; simp
  rw [hl]
  exact this

set_option maxHeartbeats 1000000 in
theorem ctext_no (r : Int) (w : World) (ht : Tables w) (hc : hasT charT r = false) :
    Calls Tryd.prog 32 #[.int .i64 r] w fun e w' => e = .returned (.tuple #[.string ⟨#[]⟩, .int .i64 6]) ∧ Below w.heap.size w w' := by
  have H := Lib.hid (hc ▸ char_any r w ht)
  clear hc ht
  go_enter Tryd.func32, Tryd.ntmps32
  go_wp2_with fail
  refine H.out.mono ?_
  rintro e w1 ⟨rfl, hb⟩
  go_wp2_with fail
  go_ret2
  exact ⟨rfl, hb⟩
set_option maxHeartbeats 1000000 in
theorem ctext_yes (n : Nat) (w : World) (ht : Tables w) (hp : Pow w) (hn : n ≤ 2000000) (hc : hasT charT (n : Int) = true) :
    Calls Tryd.prog 32 #[.int .i64 (n : Int)] w fun e w' => e = .returned (.tuple #[strV (txtL n), .int .i64 0]) ∧ Below w.heap.size w w' := by
  have H := Lib.hid (hc ▸ char_any (n : Int) w ht)
  have HI := Lib.hid (fun (w' : World) (hb : Below w.heap.size w w') => itoa_any n w' (by omega) (hp.below hb))
  have hd := dec_le n (by omega)
  unfold txtL
  obtain ⟨D, hD⟩ : ∃ D, Lib.decDigits n = D := ⟨_, rfl⟩
  rw [hD] at HI hd ⊢
  have HT := Lib.hid (txt_str D)
  have hov : ¬ 9223372036854775807 < 2 + D.length := by omega
  have hov2 : ¬ 9223372036854775807 < 2 + D.length + 1 := by omega
  clear hc ht hp hD
  go_enter Tryd.func32, Tryd.ntmps32
  go_wp2_with fail
  refine H.out.mono ?_
  rintro e w1 ⟨rfl, hb⟩
  go_wp2_with fail
  refine (HI.out w1 hb).mono ?_
  rintro e w2 ⟨rfl, hb2⟩
  go_wp2_with fail
  go_ret2
  exact ⟨ret_st HT.out, hb.trans (hb2.mono hb.size)⟩

/-- At the loop's head: what is put back so far, and the place. -/
def TxtRel (s : List UInt8) (B : Nat) (w0 : World) (b i : Value) (w : World) : Prop := ∃ k : Nat, k ≤ s.length ∧ b = .string ⟨(s.take k).toArray⟩ ∧ i = .int .i64 (posE s k : Nat) ∧ Below B w0 w
theorem txtRel_mk {s : List UInt8} {B : Nat} {w0 w : World} {b : ByteArray} {i : Int} (k : Nat) (h1 : k ≤ s.length) (h2 : b = ⟨(s.take k).toArray⟩) (h3 : i = (posE s k : Nat)) (h4 : Below B w0 w) : TxtRel s B w0 (.string b) (.int .i64 i) w :=
  ⟨k, h1, by rw [h2], by rw [h3], h4⟩
theorem conv_one (b : Nat) (hb : b < 256) (W : World) : (convert 22 9 (.slice (some ⟨W.heap.size, 0, none⟩) 1 1)).run Tryd.prog (W.alloc (.cells #[.int .u8 (b : Int)] 5)) = .ok (.string ⟨#[UInt8.ofNat b]⟩) (W.alloc (.cells #[.int .u8 (b : Int)] 5)) := by
  have h := conv_sees (W.alloc (.cells #[.int .u8 (b : Int)] 5)) (some ⟨W.heap.size, 0, none⟩) 1 1 [UInt8.ofNat b] rfl (by
    have e : vB [UInt8.ofNat b] = [.int .u8 (b : Int)] := by
      unfold vB
      rw [List.map_cons, List.map_nil, ofNat_toNat hb]
    rw [e]
    exact sees_lit W [.int .u8 (b : Int)] _ _)
  exact h
theorem take_snocB (s : List UInt8) (k : Nat) (hk : k < s.length) : (⟨(s.take (k + 1)).toArray⟩ : ByteArray) = ⟨(s.take k).toArray⟩ ++ ⟨#[UInt8.ofNat (byteAt s k)]⟩ := by
  rw [show (⟨#[UInt8.ofNat (byteAt s k)]⟩ : ByteArray) = ⟨[UInt8.ofNat (byteAt s k)].toArray⟩ from rfl, str_app]
  congr 2
  rw [List.take_succ_eq_append_getElem hk]
  congr 2
  unfold byteAt
  rw [List.getElem?_eq_getElem hk]
  simp

set_option maxHeartbeats 8000000 in
theorem crefTexts_no (r : Int) (s : List UInt8) (w : World) (hc : hasT charT r = false) (hs : s.length ≤ 200) (ht : Tables w) (hp : Pow w) :
    Calls Tryd.prog 8 #[.int .i64 r, strV s] w fun e w' => e = .returned (.bool true) ∧ Below w.heap.size w w' := by
  have HL := Lib.hid (fun (w' : World) (hb : Below w.heap.size w w') => live06_any w' (ht.below hb))
  have HSZ := str_size s
  have H1 := Lib.hid (ctext_no r w ht hc)
  have H2 := Lib.hid (fun (w' : World) => hc ▸ rchar3_any r w')
  have H5 := Lib.hid (fun (w' : World) => escape_any s w' (by omega))
  have H6 := Lib.hid (fun (w' : World) => rescape_any s w' (by omega))
  have hol := escL_le s
  have hEnd := pos_end s
  have HAT := Lib.hid (fun k hk => esc_at s k hk)
  have HPS := Lib.hid (fun k hk => pos_le s k hk)
  have HPZ := Lib.hid (fun k hk => pos_succ s k hk)
  obtain ⟨o, ho⟩ : ∃ o, escL s = o := ⟨_, rfl⟩
  rw [ho] at H5 H6 hol hEnd HAT HPS
  clear ho
  have HEnd := Lib.hid hEnd
  clear hEnd
  have HCH := Lib.hid (fun (P : Nat) (w' : World) (A : Option Addr) (cap : Nat) (hb : P ≤ o.length) (hs : Sees w' A (vB o)) (h1 : o.length ≤ cap) (h2 : cap ≤ maxLen) =>
    rchar6_any o A o.length cap (P : Int) w' rfl h1 (by unfold maxLen at h2; omega) ⟨by omega, by omega⟩ (by omega) hs)
  have HEN := Lib.hid (fun (P : Nat) (w' : World) (A : Option Addr) (cap : Nat) (hP : P ≤ o.length) (hb : Below w.heap.size w w') (hs : Sees w' A (vB o)) (h1 : o.length ≤ cap) (h2 : cap ≤ maxLen) =>
    rent_any o A o.length cap (P : Int) 38 w' rfl h1 (by unfold maxLen at h2; omega) ⟨by omega, by omega⟩ (by omega) (by omega) hs (ht.below hb).toN)
  have HKN := Lib.hid (fun (nm : List UInt8) (w' : World) => rknown_any nm w')
  have kc := fun W => run_bytes_of_string (P := Tryd.prog) W 9 22 5 ⟨o.toArray⟩ Tryd.underlying9 Tryd.underlying22 Tryd.underlying5
  have HSO := str_size o
  clear ht hp hc
  go_enter Tryd.func8, Tryd.ntmps8
  go_wp2_with fail
  refine H1.out.mono ?_
  rintro e w1 ⟨rfl, hb1⟩
  go_wp2_with fail
  refine (H2.out w1).mono ?_
  rintro e w1' ⟨rfl, rfl⟩
  go_wp2_with fail
  refine (H5.out w1).mono ?_
  rintro e w3 ⟨rfl, hc3⟩
  have hb3 := hb1.trans (hc3.mono hb1.size)
  clear hc3
  go_wp2_with fail
  go_loopw [11, 12] (fun b i wr => TxtRel s w.heap.size w b i wr) (fun _ i _ => o.length - (intOf i).toNat)
  case atStart => exact txtRel_mk 0 (by omega) rfl rfl hb3
  case round =>
    obtain ⟨k, hk, rfl, rfl, hB⟩ := hrel
    by_cases hlt : k < s.length
    · have hat := HAT.out k hlt
      have hps := HPS.out k hlt
      have hpz := HPZ.out k hlt
      have hez := escB_le (byteAt s k)
      have he1 : 0 < (escB (byteAt s k)).length := by unfold escB; (repeat' split) <;> simp
      have HTK := Lib.hid (take_snocB s k hlt)
      have htl : (s.take k).length = k := by rw [List.length_take]; omega
      obtain ⟨P, hP⟩ : ∃ P, posE s k = P := ⟨_, rfl⟩
      obtain ⟨P2, hP2⟩ : ∃ P, posE s (k + 1) = P := ⟨_, rfl⟩
      obtain ⟨b, hb⟩ : ∃ b, byteAt s k = b := ⟨_, rfl⟩
      have hb9 := byteAt_lt s k
      rw [hb] at hat hpz hez he1 hb9 HTK
      rw [hP] at hat hpz ⊢
      rw [hP2] at hat hps hpz
      have HP2 := Lib.hid hP2
      obtain ⟨T, hT⟩ : ∃ T, s.take k = T := ⟨_, rfl⟩
      rw [hT] at HTK htl ⊢
      have hPP : P < P2 := by omega
      have hPo : P < o.length := by omega
      have htl2 : T.length ≤ 200 := by omega
      clear hb hP hP2 hT hpz hez he1 htl
      have hix := str_idx o P hPo
      have hch := HCH.out P
      have hen := HEN.out P
      have hcg := fun W : World => grownCap_ge W o.length 0 5
      have hcl := fun W : World => grownCap_le_maxLen W o.length 0 5 (by unfold maxLen; omega)
      have HCG := Lib.hid hcg
      have HCL := Lib.hid hcl
      have hov : ¬ 9223372036854775807 < T.length + 1 := by omega
      have hov2 : ¬ 9223372036854775807 < T.length + (min (P + 1) o.length - P) := by omega
      have hsz := hB.size
      clear hcg hcl
      rcases hat with ⟨a1, a2, a3, nm, a4, a5⟩ | ⟨a1, a2, a3, a4⟩ | ⟨a1, ⟨b38, b60, b62, b34, b13, b10, b9'⟩, a2, a3, a4⟩
      · rw [a1] at hix
        rw [a3] at hch
        rw [a4] at hen
        have hkn := HKN.out nm
        rw [a5] at hkn
        have hch' := Lib.hid hch
        have hen' := Lib.hid hen
        have hkn' := Lib.hid hkn
        have tz : ((P2 : Int) == 0) = false := by simp; omega
        have k1 := conv_one b hb9
        unfold noC at hch'
        clear hch hen hkn a1 a2 a3 a4 a5
        go_wp2_with fail
        refine (hch'.out _ _ _ (by omega) (made_sees _ o _ _ _ _ rfl) (HCG.out _) (HCL.out _)).mono ?_
        rintro e w4 ⟨rfl, rfl⟩
        go_wp2_with fail
        refine (hen'.out _ _ _ (by omega) (((hB.alloc hsz _).drew.alloc (by simp; omega) _).drew) (made_sees _ o _ _ _ _ (by simp)) (HCG.out _) (HCL.out _)).mono ?_
        rintro e w4 ⟨rfl, hc4⟩
        have hb4 := ((hB.alloc hsz _).drew.alloc (by simp; omega) _).drew.trans (hc4.mono (by simp; omega))
        clear hc4
        have hsz4 := hb4.size
        go_wp2_with fail
        refine (hkn'.out w4).mono ?_
        rintro e w5 ⟨rfl, rfl⟩
        go_wp2_with fail
        go_roundw
        case rel => exact txtRel_mk (k + 1) (by omega) HTK.out.symm (by rw [HP2.out]) (hb4.alloc hsz4 _)
        case measure => simp [intOf]; omega
      · rw [a1] at hix
        rw [a4] at hch
        rw [a3] at hen
        have hch' := Lib.hid hch
        have hen' := Lib.hid hen
        have tz : ((P2 : Int) == 0) = false := by simp; omega
        have k1 := conv_one b hb9
        unfold noV at hen'
        clear hch hen a1 a2 a3 a4
        go_wp2_with fail
        refine (hch'.out _ _ _ (by omega) (made_sees _ o _ _ _ _ rfl) (HCG.out _) (HCL.out _)).mono ?_
        rintro e w4 ⟨rfl, rfl⟩
        go_wp2_with fail
        refine (hen'.out _ _ _ (by omega) (((hB.alloc hsz _).drew.alloc (by simp; omega) _).drew) (made_sees _ o _ _ _ _ (by simp)) (HCG.out _) (HCL.out _)).mono ?_
        rintro e w4 ⟨rfl, hc4⟩
        have hb4 := ((hB.alloc hsz _).drew.alloc (by simp; omega) _).drew.trans (hc4.mono (by simp; omega))
        clear hc4
        have hsz4 := hb4.size
        go_wp2_with fail
        go_roundw
        case rel => exact txtRel_mk (k + 1) (by omega) HTK.out.symm (by rw [HP2.out]) (hb4.alloc hsz4 _)
        case measure => simp [intOf]; omega
      · rw [a1] at hix
        have h1 : (o.drop P).take 1 = [UInt8.ofNat b] := by
          rw [List.drop_eq_getElem_cons hPo, List.take_succ_cons, List.take_zero, ← a1]
          unfold byteAt
          rw [List.getElem?_eq_getElem hPo]
          simp
        have H1' := Lib.hid h1
        rw [a3] at hch
        rw [a4] at hen
        have HA2 := Lib.hid a2
        have hch' := Lib.hid hch
        have hen' := Lib.hid hen
        have u60 : ((b : Int) == 60) = false := by simp; omega
        have u34 : ((b : Int) == 34) = false := by simp; omega
        have u13 : ((b : Int) == 13) = false := by simp; omega
        have u10 : ((b : Int) == 10) = false := by simp; omega
        have u9 : ((b : Int) == 9) = false := by simp; omega
        unfold noC at hch'
        unfold noV at hen'
        clear hch hen a1 a2 a3 a4 h1 b38 b60 b62 b34 b13 b10 b9'
        go_wp2_with fail
        refine (hch'.out _ _ _ (by omega) (made_sees _ o _ _ _ _ rfl) (HCG.out _) (HCL.out _)).mono ?_
        rintro e w4 ⟨rfl, rfl⟩
        go_wp2_with fail
        refine (hen'.out _ _ _ (by omega) (((hB.alloc hsz _).drew.alloc (by simp; omega) _).drew) (made_sees _ o _ _ _ _ (by simp)) (HCG.out _) (HCL.out _)).mono ?_
        rintro e w4 ⟨rfl, hc4⟩
        have hb4 := ((hB.alloc hsz _).drew.alloc (by simp; omega) _).drew.trans (hc4.mono (by simp; omega))
        clear hc4
        go_wp2_with fail
        go_roundw
        case rel => exact txtRel_mk (k + 1) (by omega) (by rw [HTK.out, str_extract, Nat.add_sub_cancel_left, H1'.out]) (by rw [HP2.out, HA2.out]; omega) hb4
        case measure => simp [intOf]; omega
    · obtain rfl : k = s.length := by omega
      rw [HEnd.out, List.take_length]
      go_wp2_with fail
      refine (H6.out wr).mono ?_
      rintro e w4 ⟨rfl, rfl⟩
      go_wp2_with fail
      refine (HL.out wr hB).mono ?_
      rintro e w5 ⟨rfl, hb5⟩
      go_wp2_with fail
      go_ret
      exact ⟨rfl, hB.trans (hb5.mono hB.size)⟩

set_option maxHeartbeats 8000000 in
theorem crefTexts_yes (n : Nat) (hn : n ≤ 2000000) (s : List UInt8) (w : World) (hc : hasT charT (n : Int) = true) (hs : s.length ≤ 200) (ht : Tables w) (hp : Pow w) :
    Calls Tryd.prog 8 #[.int .i64 (n : Int), strV s] w fun e w' => e = .returned (.bool true) ∧ Below w.heap.size w w' := by
  have HL := Lib.hid (fun (w' : World) (hb : Below w.heap.size w w') => live06_any w' (ht.below hb))
  have HSZ := str_size s
  have H1 := Lib.hid (ctext_yes n w ht hp hn hc)
  have H3 := Lib.hid (fun (w' : World) => rdigits_any n w' (by omega))
  have hd := dec_le n (by omega)
  have hr := txt_read n hc
  have hX : txtL n = 38 :: 35 :: Lib.decDigits n ++ [59] := rfl
  have hXl : (txtL n).length = (Lib.decDigits n).length + 3 := by rw [hX]; simp
  have HC := fun (w' : World) (A : Option Addr) (cap : Nat) (hb : Below w.heap.size w w') (hs : Sees w' A (vB (txtL n))) (h1 : (txtL n).length ≤ cap) (h2 : cap ≤ maxLen) =>
    cchar_any (txtL n) A (txtL n).length cap 0 w' rfl h1 (by unfold maxLen at h2; omega) ⟨by omega, by omega⟩ (by omega) hs (ht.below hb)
  rw [hr] at HC
  obtain ⟨X, hXX⟩ : ∃ X, txtL n = X := ⟨_, rfl⟩
  rw [hXX] at HC H1 hX hXl
  obtain ⟨D, hD⟩ : ∃ D, Lib.decDigits n = D := ⟨_, rfl⟩
  rw [hD] at H3 hd hX hXl
  have hE := txt_str D
  rw [← hX] at hE
  have H4 := Lib.hid HC
  have hov1 : ¬ 9223372036854775807 < 2 + D.length := by omega
  have hov2 : ¬ 9223372036854775807 < 2 + D.length + 1 := by omega
  have HXL := Lib.hid hXl
  have hXle : X.length ≤ 24 := by omega
  clear HC hD hXX hr hX hXl
  have kcX := fun W => run_bytes_of_string (P := Tryd.prog) W 9 22 5 ⟨X.toArray⟩ Tryd.underlying9 Tryd.underlying22 Tryd.underlying5
  have HSX := str_size X
  have H2 := Lib.hid (fun (w' : World) => hc ▸ rchar3_any (n : Int) w')
  have H5 := Lib.hid (fun (w' : World) => escape_any s w' (by omega))
  have H6 := Lib.hid (fun (w' : World) => rescape_any s w' (by omega))
  have hol := escL_le s
  have hEnd := pos_end s
  have HAT := Lib.hid (fun k hk => esc_at s k hk)
  have HPS := Lib.hid (fun k hk => pos_le s k hk)
  have HPZ := Lib.hid (fun k hk => pos_succ s k hk)
  obtain ⟨o, ho⟩ : ∃ o, escL s = o := ⟨_, rfl⟩
  rw [ho] at H5 H6 hol hEnd HAT HPS
  clear ho
  have HEnd := Lib.hid hEnd
  clear hEnd
  have HCH := Lib.hid (fun (P : Nat) (w' : World) (A : Option Addr) (cap : Nat) (hb : P ≤ o.length) (hs : Sees w' A (vB o)) (h1 : o.length ≤ cap) (h2 : cap ≤ maxLen) =>
    rchar6_any o A o.length cap (P : Int) w' rfl h1 (by unfold maxLen at h2; omega) ⟨by omega, by omega⟩ (by omega) hs)
  have HEN := Lib.hid (fun (P : Nat) (w' : World) (A : Option Addr) (cap : Nat) (hP : P ≤ o.length) (hb : Below w.heap.size w w') (hs : Sees w' A (vB o)) (h1 : o.length ≤ cap) (h2 : cap ≤ maxLen) =>
    rent_any o A o.length cap (P : Int) 38 w' rfl h1 (by unfold maxLen at h2; omega) ⟨by omega, by omega⟩ (by omega) (by omega) hs (ht.below hb).toN)
  have HKN := Lib.hid (fun (nm : List UInt8) (w' : World) => rknown_any nm w')
  have kc := fun W => run_bytes_of_string (P := Tryd.prog) W 9 22 5 ⟨o.toArray⟩ Tryd.underlying9 Tryd.underlying22 Tryd.underlying5
  have HSO := str_size o
  clear ht hp hc
  go_enter Tryd.func8, Tryd.ntmps8
  go_wp2_with fail
  refine H1.out.mono ?_
  rintro e w1 ⟨rfl, hb1⟩
  go_wp2_with fail
  refine (H2.out w1).mono ?_
  rintro e w1' ⟨rfl, rfl⟩
  go_wp2_with fail
  have hcg := grownCap_ge w1 X.length 0 5
  have hcl := grownCap_le_maxLen w1 X.length 0 5 (by unfold maxLen; omega)
  have hB2 := fun o => (hb1.alloc hb1.size o).drew
  refine (H4.out _ _ _ (hB2 _) (made_sees _ X _ _ _ _ rfl) hcg hcl).mono ?_
  rintro e w2 ⟨rfl, hc2⟩
  have hb2 := (hB2 _).trans (hc2.mono (hB2 _).size)
  clear hc2 hcg hcl hB2
  go_wp2_with fail
  refine (H3.out w2).mono ?_
  rintro e w2' ⟨rfl, rfl⟩
  go_wp2_with fail
  refine (H5.out w2).mono ?_
  rintro e w3 ⟨rfl, hc3⟩
  have hb3 := hb2.trans (hc3.mono hb2.size)
  clear hc3
  go_wp2_with fail
  go_loopw [11, 12] (fun b i wr => TxtRel s w.heap.size w b i wr) (fun _ i _ => o.length - (intOf i).toNat)
  case atStart => exact txtRel_mk 0 (by omega) rfl rfl hb3
  case round =>
    obtain ⟨k, hk, rfl, rfl, hB⟩ := hrel
    by_cases hlt : k < s.length
    · have hat := HAT.out k hlt
      have hps := HPS.out k hlt
      have hpz := HPZ.out k hlt
      have hez := escB_le (byteAt s k)
      have he1 : 0 < (escB (byteAt s k)).length := by unfold escB; (repeat' split) <;> simp
      have HTK := Lib.hid (take_snocB s k hlt)
      have htl : (s.take k).length = k := by rw [List.length_take]; omega
      obtain ⟨P, hP⟩ : ∃ P, posE s k = P := ⟨_, rfl⟩
      obtain ⟨P2, hP2⟩ : ∃ P, posE s (k + 1) = P := ⟨_, rfl⟩
      obtain ⟨b, hb⟩ : ∃ b, byteAt s k = b := ⟨_, rfl⟩
      have hb9 := byteAt_lt s k
      rw [hb] at hat hpz hez he1 hb9 HTK
      rw [hP] at hat hpz ⊢
      rw [hP2] at hat hps hpz
      have HP2 := Lib.hid hP2
      obtain ⟨T, hT⟩ : ∃ T, s.take k = T := ⟨_, rfl⟩
      rw [hT] at HTK htl ⊢
      have hPP : P < P2 := by omega
      have hPo : P < o.length := by omega
      have htl2 : T.length ≤ 200 := by omega
      clear hb hP hP2 hT hpz hez he1 htl
      have hix := str_idx o P hPo
      have hch := HCH.out P
      have hen := HEN.out P
      have hcg := fun W : World => grownCap_ge W o.length 0 5
      have hcl := fun W : World => grownCap_le_maxLen W o.length 0 5 (by unfold maxLen; omega)
      have HCG := Lib.hid hcg
      have HCL := Lib.hid hcl
      have hov : ¬ 9223372036854775807 < T.length + 1 := by omega
      have hov2 : ¬ 9223372036854775807 < T.length + (min (P + 1) o.length - P) := by omega
      have hsz := hB.size
      clear hcg hcl
      rcases hat with ⟨a1, a2, a3, nm, a4, a5⟩ | ⟨a1, a2, a3, a4⟩ | ⟨a1, ⟨b38, b60, b62, b34, b13, b10, b9'⟩, a2, a3, a4⟩
      · rw [a1] at hix
        rw [a3] at hch
        rw [a4] at hen
        have hkn := HKN.out nm
        rw [a5] at hkn
        have hch' := Lib.hid hch
        have hen' := Lib.hid hen
        have hkn' := Lib.hid hkn
        have tz : ((P2 : Int) == 0) = false := by simp; omega
        have k1 := conv_one b hb9
        unfold noC at hch'
        clear hch hen hkn a1 a2 a3 a4 a5
        go_wp2_with fail
        refine (hch'.out _ _ _ (by omega) (made_sees _ o _ _ _ _ rfl) (HCG.out _) (HCL.out _)).mono ?_
        rintro e w4 ⟨rfl, rfl⟩
        go_wp2_with fail
        refine (hen'.out _ _ _ (by omega) (((hB.alloc hsz _).drew.alloc (by simp; omega) _).drew) (made_sees _ o _ _ _ _ (by simp)) (HCG.out _) (HCL.out _)).mono ?_
        rintro e w4 ⟨rfl, hc4⟩
        have hb4 := ((hB.alloc hsz _).drew.alloc (by simp; omega) _).drew.trans (hc4.mono (by simp; omega))
        clear hc4
        have hsz4 := hb4.size
        go_wp2_with fail
        refine (hkn'.out w4).mono ?_
        rintro e w5 ⟨rfl, rfl⟩
        go_wp2_with fail
        go_roundw
        case rel => exact txtRel_mk (k + 1) (by omega) HTK.out.symm (by rw [HP2.out]) (hb4.alloc hsz4 _)
        case measure => simp [intOf]; omega
      · rw [a1] at hix
        rw [a4] at hch
        rw [a3] at hen
        have hch' := Lib.hid hch
        have hen' := Lib.hid hen
        have tz : ((P2 : Int) == 0) = false := by simp; omega
        have k1 := conv_one b hb9
        unfold noV at hen'
        clear hch hen a1 a2 a3 a4
        go_wp2_with fail
        refine (hch'.out _ _ _ (by omega) (made_sees _ o _ _ _ _ rfl) (HCG.out _) (HCL.out _)).mono ?_
        rintro e w4 ⟨rfl, rfl⟩
        go_wp2_with fail
        refine (hen'.out _ _ _ (by omega) (((hB.alloc hsz _).drew.alloc (by simp; omega) _).drew) (made_sees _ o _ _ _ _ (by simp)) (HCG.out _) (HCL.out _)).mono ?_
        rintro e w4 ⟨rfl, hc4⟩
        have hb4 := ((hB.alloc hsz _).drew.alloc (by simp; omega) _).drew.trans (hc4.mono (by simp; omega))
        clear hc4
        have hsz4 := hb4.size
        go_wp2_with fail
        go_roundw
        case rel => exact txtRel_mk (k + 1) (by omega) HTK.out.symm (by rw [HP2.out]) (hb4.alloc hsz4 _)
        case measure => simp [intOf]; omega
      · rw [a1] at hix
        have h1 : (o.drop P).take 1 = [UInt8.ofNat b] := by
          rw [List.drop_eq_getElem_cons hPo, List.take_succ_cons, List.take_zero, ← a1]
          unfold byteAt
          rw [List.getElem?_eq_getElem hPo]
          simp
        have H1' := Lib.hid h1
        rw [a3] at hch
        rw [a4] at hen
        have HA2 := Lib.hid a2
        have hch' := Lib.hid hch
        have hen' := Lib.hid hen
        have u60 : ((b : Int) == 60) = false := by simp; omega
        have u34 : ((b : Int) == 34) = false := by simp; omega
        have u13 : ((b : Int) == 13) = false := by simp; omega
        have u10 : ((b : Int) == 10) = false := by simp; omega
        have u9 : ((b : Int) == 9) = false := by simp; omega
        unfold noC at hch'
        unfold noV at hen'
        clear hch hen a1 a2 a3 a4 h1 b38 b60 b62 b34 b13 b10 b9'
        go_wp2_with fail
        refine (hch'.out _ _ _ (by omega) (made_sees _ o _ _ _ _ rfl) (HCG.out _) (HCL.out _)).mono ?_
        rintro e w4 ⟨rfl, rfl⟩
        go_wp2_with fail
        refine (hen'.out _ _ _ (by omega) (((hB.alloc hsz _).drew.alloc (by simp; omega) _).drew) (made_sees _ o _ _ _ _ (by simp)) (HCG.out _) (HCL.out _)).mono ?_
        rintro e w4 ⟨rfl, hc4⟩
        have hb4 := ((hB.alloc hsz _).drew.alloc (by simp; omega) _).drew.trans (hc4.mono (by simp; omega))
        clear hc4
        go_wp2_with fail
        go_roundw
        case rel => exact txtRel_mk (k + 1) (by omega) (by rw [HTK.out, str_extract, Nat.add_sub_cancel_left, H1'.out]) (by rw [HP2.out, HA2.out]; omega) hb4
        case measure => simp [intOf]; omega
    · obtain rfl : k = s.length := by omega
      rw [HEnd.out, List.take_length]
      go_wp2_with fail
      refine (H6.out wr).mono ?_
      rintro e w4 ⟨rfl, rfl⟩
      go_wp2_with fail
      refine (HL.out wr hB).mono ?_
      rintro e w5 ⟨rfl, hb5⟩
      go_wp2_with fail
      go_ret
      exact ⟨rfl, hB.trans (hb5.mono hB.size)⟩

set_option maxHeartbeats 1000000 in
theorem crefTexts_any (r : Int) (s : List UInt8) (w : World) (hr : I64 r) (ht : Tables w) (hp : Pow w) :
    Calls Tryd.prog 8 #[.int .i64 r, strV s] w fun e w' => e = .returned (.bool true) ∧ Below w.heap.size w w' := by
  by_cases hbig : 200 < s.length
  · have HL := Lib.hid (live06_any w ht)
    have HSZ := str_size s
    go_enter Tryd.func8, Tryd.ntmps8
    go_wp2_with fail
    refine HL.out.mono ?_
    rintro e w1 ⟨rfl, hb⟩
    go_wp2_with fail
    go_ret
    exact ⟨rfl, hb⟩
  · cases hc : hasT charT r with
    | false => exact crefTexts_no r s w hc (by omega) ht hp
    | true =>
      obtain ⟨n, rfl, hn⟩ : ∃ n : Nat, r = n ∧ n ≤ 2000000 := by
        have := (charT_iff r).1 hc
        exact ⟨r.toNat, by omega, by omega⟩
      exact crefTexts_yes n hn s w hc (by omega) ht hp
end Go.Proofs.YtncoldgkljnbeaaDoor
