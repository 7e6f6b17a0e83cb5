/- Texts between quotes: the page's example; the walks of LitRefs and LitWrites. -/
import Derived.Test.YtgbbccfoceifnaaDoorLitg
import Derived.Test.YtgbbccfoceifnaaDoorEsf
import Derived.Lib.BufferRead
import Derived.Lib.SlBytesConst
namespace Go.Proofs.YtgbbccfoceifnaaDoor
open Go.ChangeShapes Go.WideShapes Go.ChangeAt Go.RowKit
set_option linter.unusedVariables false
set_option maxRecDepth 100000

theorem lt1 : trV (strT 60 [39, 97, 38, 97, 109, 112, 59, 98, 39] 0) = .tuple #[.string ⟨#[97, 38, 97, 109, 112, 59, 98]⟩, .int .i64 9, .int .i64 0] := by kernel_rfl
theorem lt2 : trV (strT 60 [39, 97, 60, 98, 39] 0) = .tuple #[.string ⟨#[]⟩, .int .i64 0, .int .i64 7] := by kernel_rfl
theorem lt3 : refsV [97, 38, 98] = .tuple #[.int .i64 1, .int .i64 7] := by kernel_rfl

set_option maxHeartbeats 1000000 in
theorem live07_any (w : World) (ht : TabC w) : Calls Tryd.prog 15 #[] w fun e w' => e = .returned (.bool true) ∧ Below w.heap.size w w' := by
  have H1 := Lib.hid (fun (w' : World) (hb : Below w.heap.size w w') => lt1 ▸ litValue_any [39, 97, 38, 97, 109, 112, 59, 98, 39] (some ⟨w'.heap.size, 0, none⟩) 9 9 0 (w'.alloc (.cells #[.int .u8 39, .int .u8 97, .int .u8 38, .int .u8 97, .int .u8 109, .int .u8 112, .int .u8 59, .int .u8 98, .int .u8 39] 5 (9, 10))) rfl (by omega) (by omega) ⟨by omega, by omega⟩ (by omega)
    (sees_lit w' (vB [39, 97, 38, 97, 109, 112, 59, 98, 39]) _ _) (ht.below (hb.alloc hb.size _)))
  have H2 := Lib.hid (fun (w' : World) (hb : Below w.heap.size w w') => lt2 ▸ litValue_any [39, 97, 60, 98, 39] (some ⟨w'.heap.size, 0, none⟩) 5 5 0 (w'.alloc (.cells #[.int .u8 39, .int .u8 97, .int .u8 60, .int .u8 98, .int .u8 39] 5 (5, 6))) rfl (by omega) (by omega) ⟨by omega, by omega⟩ (by omega)
    (sees_lit w' (vB [39, 97, 60, 98, 39]) _ _) (ht.below (hb.alloc hb.size _)))
  have H3 := Lib.hid (fun (w' : World) (hb : Below w.heap.size w w') => lt3 ▸ refs_any [97, 38, 98] w' (by simp) (ht.below hb))
  have kc := fun (w : World) (C : Array Value) (n c : Nat) => Lib.run_convert_bytes_const (P := Tryd.prog) w 22 5 C n c Tryd.underlying22 Tryd.underlying5
  go_enter Tryd.func15, Tryd.ntmps15
  go_wp2_with fail
  refine (H1.out w (Below.refl _ _)).mono ?_
  rintro e w1 ⟨rfl, hb1⟩
  have hb1' : Below w.heap.size w w1 := ((Below.refl _ w).alloc (Nat.le_refl _) _).trans (hb1.mono (by simp))
  go_wp2_with fail
  refine (H2.out w1 hb1').mono ?_
  rintro e w2 ⟨rfl, hb2⟩
  have hb2' : Below w.heap.size w w2 := (hb1'.alloc hb1'.size _).trans (hb2.mono (by have := hb1'.size; simp; omega))
  go_wp2_with fail
  refine (H3.out w2 hb2').mono ?_
  rintro e w3 ⟨rfl, hb3⟩
  go_wp2_with fail
  go_ret
  exact ⟨rfl, hb2'.trans (hb3.mono hb2'.size)⟩

set_option maxHeartbeats 2000000 in
theorem litRefs_any (s : List UInt8) (w : World) (ht : TabC w) :
    Calls Tryd.prog 4 #[strV s] w fun e w' => e = .returned (.bool true) ∧ Below w.heap.size w w' := by
  have HL := Lib.hid (fun (w' : World) (hb : Below w.heap.size w w') => live07_any w' (ht.below hb))
  have HSZ := str_size s
  by_cases hbig : 400 < s.length
  · go_enter Tryd.func4, Tryd.ntmps4
    go_wp2_with fail
    refine (HL.out w (Below.refl _ _)).mono ?_
    rintro e w1 ⟨rfl, hb⟩
    go_wp2_with fail
    go_ret
    exact ⟨rfl, hb⟩
  · have H1 := Lib.hid (refs_any s w (by omega) ht)
    have H2 := Lib.hid (fun (w' : World) (hb : Below w.heap.size w w') => rrefs_any s w' (by omega) (ht.below hb).toN)
    unfold refsV at H1 H2
    obtain ⟨x, y, hxy⟩ : ∃ x y, refsN s s.length 0 = (x, y) := ⟨_, _, rfl⟩
    rw [hxy] at H1 H2
    clear hxy
    go_enter Tryd.func4, Tryd.ntmps4
    go_wp2_with fail
    refine H1.out.mono ?_
    rintro e w1 ⟨rfl, hb1⟩
    go_wp2_with fail
    refine (H2.out w1 hb1).mono ?_
    rintro e w2 ⟨rfl, hb2⟩
    have hb2' := hb1.trans (hb2.mono hb1.size)
    go_wp2_with fail
    refine (HL.out w2 hb2').mono ?_
    rintro e w3 ⟨rfl, hb3⟩
    go_wp2_with fail
    go_ret
    exact ⟨rfl, hb2'.trans (hb3.mono hb2'.size)⟩

theorem escB_no (b : Nat) (hb : b < 256) : ∀ c ∈ escB b, c ≠ 34 ∧ c ≠ 60 := by
  unfold escB
  repeat' split
  all_goals first
    | decide
    | (intro c hc
       obtain rfl : c = UInt8.ofNat b := by simpa using hc
       constructor
       · intro h
         have := congrArg UInt8.toNat h
         rw [ofNat_toNat hb] at this
         exact absurd this (by show b ≠ 34; omega)
       · intro h
         have := congrArg UInt8.toNat h
         rw [ofNat_toNat hb] at this
         exact absurd this (by show b ≠ 60; omega))
theorem escL_no (s : List UInt8) : ∀ c ∈ escL s, c ≠ 34 ∧ c ≠ 60 := by
  intro c hc
  unfold escL at hc
  rw [List.mem_flatMap] at hc
  obtain ⟨b, _, hb⟩ := hc
  exact escB_no _ (UInt8.toNat_lt b) c hb
theorem index_no {m : List UInt8} {b : UInt8} (h : ∀ c ∈ m, c ≠ b) : Lib.indexByte m b = -1 := by
  rcases index_cases m b with ⟨h1, _⟩ | ⟨i, _, _, h2, _⟩
  · exact h1
  · exact absurd rfl (h b (List.mem_of_getElem? h2))
theorem index_end {m : List UInt8} {b : UInt8} (h : ∀ c ∈ m, c ≠ b) : Lib.indexByte (m ++ [b]) b = m.length := by
  rcases index_cases (m ++ [b]) b with ⟨_, h1⟩ | ⟨i, h0, h1, h2, h3⟩
  · exact absurd (by rw [List.getElem?_append_right (Nat.le_refl _), Nat.sub_self]; rfl) (h1 m.length)
  · rw [h0]
    rw [List.length_append] at h1
    simp only [List.length_cons, List.length_nil] at h1
    rcases Nat.lt_or_ge i m.length with hi | hi
    · rw [List.getElem?_append_left hi] at h2
      exact absurd rfl (h b (List.mem_of_getElem? h2))
    · have : i = m.length := by omega
      rw [this]
/-- No reference of an escaped text is wrong. -/
theorem esc_refs (s : List UInt8) (n : Nat) : ∀ (k f : Nat), k + n = s.length → (escL s).length ≤ posE s k + f → refsN (escL s) f (posE s k) = (0, 0) := by
  induction n with
  | zero =>
    intro k f hk _
    obtain rfl : k = s.length := by omega
    exact refs_end _ _ (by rw [pos_end]; exact Nat.le_refl _)
  | succ n ih =>
    intro k f hk hf
    have hlt : k < s.length := by omega
    have hle := pos_le s k hlt
    have hp : posE s k < posE s (k + 1) := by
      rw [pos_succ s k hlt]
      have : 0 < (escB (byteAt s k)).length := by unfold escB; (repeat' split) <;> simp
      omega
    obtain ⟨g, rfl⟩ : ∃ g, f = g + 1 := ⟨f - 1, by omega⟩
    have hI := ih (k + 1) g (by omega) (by omega)
    rcases esc_at s k hlt with ⟨a1, a2, a3, nm, a4, a5⟩ | ⟨a1, a2, a3, a4⟩ | ⟨a1, ⟨b38, _⟩, a2, a3, a4⟩
    · have hbh : bhN (escL s) (posE s k) = (((posE s (k + 1) : Nat) : Int), (0 : Int)) := by
        unfold bhN
        rw [if_neg (by rintro ⟨_, h⟩; exact a2 h), a4]
        rfl
      rw [refs_on g (posE s k) (posE s (k + 1)) (by omega) a1 (by rw [hbh]) (by rw [hbh])]
      exact hI
    · have hlen : posE s k + 1 < (escL s).length := by
        rcases Nat.lt_or_ge (posE s k + 1) (escL s).length with h | h
        · exact h
        · unfold byteAt at a2
          rw [List.getElem?_eq_none h] at a2
          exact absurd a2 (by decide)
      have hbh : bhN (escL s) (posE s k) = (((posE s (k + 1) : Nat) : Int), (0 : Int)) := by
        unfold bhN
        rw [if_pos ⟨hlen, a2⟩, a4]
        rfl
      rw [refs_on g (posE s k) (posE s (k + 1)) (by omega) a1 (by rw [hbh]) (by rw [hbh])]
      exact hI
    · rw [refs_one g (posE s k) (by omega) (by rw [a1]; exact b38), ← a2]
      exact hI
/-- A text that is written is read as it is escaped. -/
theorem write_read (s : List UInt8) : strT 60 (34 :: escL s ++ [34]) 0 = (escL s, (((34 :: escL s ++ [34]).length : Nat) : Int), 0) := by
  have hno := escL_no s
  have hq : quoT (34 :: escL s ++ [34]) ((0 : Nat) : Int) = (escL s, ((0 + 1 + (escL s).length + 1 : Nat) : Int), 0) := by
    have hd : (34 :: escL s ++ [34]).drop (0 + 1) = escL s ++ [34] := rfl
    rw [quoT_ok (b := 34) (i := (escL s).length) (by simp) rfl (.inl rfl) (by rw [hd]; exact index_end (fun c hc => (hno c hc).1)), hd, List.take_left]
  have hr : refsE (escL s) = 0 := by
    unfold refsE
    have := esc_refs s s.length 0 (escL s).length (by omega) (by omega)
    rw [pos_zero] at this
    rw [this]
  have hw : withoutE 60 (escL s) = 0 := by
    unfold withoutE
    rw [index_no (b := UInt8.ofNat 60) (fun c hc => (hno c hc).2), if_neg (by omega)]
  have hc : chk [withoutE 60, refsE] (escL s) = 0 := by
    show (if withoutE 60 (escL s) ≠ 0 then _ else if refsE (escL s) ≠ 0 then _ else (0 : Int)) = 0
    rw [hw, hr, if_neg (by omega), if_neg (by omega)]
  unfold strT
  show chkT _ (quoT (34 :: escL s ++ [34]) ((0 : Nat) : Int)) = _
  rw [hq]
  unfold chkT
  simp only
  rw [if_neg (by simp), hc, if_neg (by simp)]
  have e : (((34 :: escL s ++ [34]).length : Nat) : Int) = ((0 + 1 + (escL s).length + 1 : Nat) : Int) := by simp; omega
  rw [e]
theorem quo_str (m : List UInt8) : (⟨#[34]⟩ : ByteArray) ++ ⟨m.toArray⟩ ++ ⟨#[34]⟩ = ⟨(34 :: m ++ [34]).toArray⟩ :=
  (congrArg (· ++ (⟨#[34]⟩ : ByteArray)) (str_app [34] m)).trans (str_app _ [34])
theorem ret_s {a b : ByteArray} (h : a = b) : Ending.returned (.string a) = .returned (.string b) := by rw [h]

set_option maxHeartbeats 1000000 in
theorem write_any (s : List UInt8) (w : World) (hs : s.length ≤ 100000) :
    Calls Tryd.prog 25 #[strV s] w fun e w' => e = .returned (strV (34 :: escL s ++ [34])) ∧ Below w.heap.size w w' := by
  have H := Lib.hid (escape_any s w (by omega))
  have hl := escL_le s
  obtain ⟨m, hm⟩ : ∃ m, escL s = m := ⟨_, rfl⟩
  rw [hm] at H hl ⊢
  have HT := Lib.hid (quo_str m)
  have hov : ¬ 9223372036854775807 < 1 + m.length := by omega
  have hov2 : ¬ 9223372036854775807 < 1 + m.length + 1 := by omega
  clear hm
  go_enter Tryd.func25, Tryd.ntmps25
  go_wp2_with fail
  refine H.out.mono ?_
  rintro e w1 ⟨rfl, hb⟩
  go_wp2_with fail
  go_ret
  exact ⟨ret_s HT.out, hb⟩

set_option maxHeartbeats 4000000 in
theorem litWrites_any (s : List UInt8) (w : World) (ht : TabC w) :
    Calls Tryd.prog 5 #[strV s] w fun e w' => e = .returned (.bool true) ∧ Below w.heap.size w w' := by
  have HL := Lib.hid (fun (w' : World) (hb : Below w.heap.size w w') => live07_any w' (ht.below hb))
  have HSZ := str_size s
  by_cases hbig : 300 < s.length
  · go_enter Tryd.func5, Tryd.ntmps5
    go_wp2_with fail
    refine (HL.out w (Below.refl _ _)).mono ?_
    rintro e w1 ⟨rfl, hb⟩
    go_wp2_with fail
    go_ret
    exact ⟨rfl, hb⟩
  · have H1 := Lib.hid (write_any s w (by omega))
    have hl := escL_le s
    have hwr := write_read s
    have H3 := Lib.hid (fun (w' : World) => rescape_any s w' (by omega))
    have H2 := fun (B cap : Nat) (w' : World) (hb : Below w.heap.size w w') (hs : Sees w' (some ⟨B, 0, none⟩) (vB (34 :: escL s ++ [34]))) (h1 : (34 :: escL s ++ [34]).length ≤ cap) (h2 : cap ≤ 9223372036854775807) =>
      litValue_any (34 :: escL s ++ [34]) (some ⟨B, 0, none⟩) (34 :: escL s ++ [34]).length cap 0 w' rfl h1 h2 ⟨by omega, by omega⟩ (by simp; omega) hs (ht.below hb)
    rw [hwr] at H2
    unfold trV at H2
    have hqs := quo_str (escL s)
    obtain ⟨m, hm⟩ : ∃ m, escL s = m := ⟨_, rfl⟩
    rw [hm] at H1 H2 H3 hl hqs
    obtain ⟨X, hX⟩ : ∃ X, 34 :: m ++ [34] = X := ⟨_, rfl⟩
    have hXl : X.length ≤ 2000 := by rw [← hX]; simp; omega
    rw [hX] at H1 H2 hqs
    have K2 := Lib.hid H2
    have HSX := str_size X
    have hov : ¬ 9223372036854775807 < 1 + m.length := by omega
    have hov2 : ¬ 9223372036854775807 < 1 + m.length + 1 := by omega
    clear H2 hwr hm hX
    go_enter Tryd.func5, Tryd.ntmps5
    go_wp2_with fail
    refine H1.out.mono ?_
    rintro e w1 ⟨rfl, hb1⟩
    obtain ⟨B, cap, W1, hrun, hc1, hc2, hbm, hBl, hBw, hs1⟩ := bytes_made X w1 (by omega)
    have hb2 := hb1.trans (hbm.mono hb1.size)
    have HS1 := Lib.hid hs1
    clear hs1
    go_wp2_with fail
    refine (K2.out B cap W1 hb2 HS1.out hc1 hc2).mono ?_
    rintro e w2 ⟨rfl, hc3⟩
    have hb3 := hb2.trans (hc3.mono hb2.size)
    clear hc3 hrun
    go_wp2_with fail
    refine (H3.out w2).mono ?_
    rintro e w3 ⟨rfl, rfl⟩
    go_wp2_with fail
    refine (H3.out w2).mono ?_
    rintro e w3 ⟨rfl, rfl⟩
    go_wp2_with fail
    refine (HL.out w2 hb3).mono ?_
    rintro e w4 ⟨rfl, hb4⟩
    go_wp2_with fail
    go_ret
    exact ⟨rfl, hb3.trans (hb4.mono hb3.size)⟩
end Go.Proofs.YtgbbccfoceifnaaDoor
