/- Contracts: the bytes of a character laid behind others; Encode. -/
import Derived.Test.YtdmfladcldkmeaaDoorUtfD
import Derived.Laws.AppendOwn
import Derived.OwnWalk
namespace Go.Proofs.YtdmfladcldkmeaaDoor
open Go.ChangeShapes Go.WideShapes Go.ChangeAt Go.RowKit
set_option linter.unusedVariables false

theorem u8_info : (Tryd.prog.info? 5).map (fun i => (i.zero, i.size, i.bytes)) = some (some (.int .u8 0), 1, 1) := by kernel_rfl
theorem cells_new (w : World) (l : List Value) (t : TypeId) : ∀ j u, l[j]? = some u → (w.alloc (.cells l.toArray t)).cell? ((⟨w.heap.size, 0, none⟩ : Addr).add j) = some u := by
  intro j u h
  have e : (⟨w.heap.size, 0, none⟩ : Addr).add j = ⟨w.heap.size, j, none⟩ := by
    unfold Addr.add; split
    · next h0 => rw [h0]
    · simp
  rw [e]
  simp [World.cell?_alloc_new, h]
theorem vB_one (l : List UInt8) : ∀ u ∈ vB l, u.oneCell' = true := by
  intro u hu
  unfold vB at hu
  simp only [List.mem_map] at hu
  obtain ⟨c, _, rfl⟩ := hu
  rfl

theorem ints_one (k : IntKind) (l : List Int) : ∀ u ∈ l.map (Value.int k), u.oneCell' = true := by
  intro u hu
  simp only [List.mem_map] at hu
  obtain ⟨c, _, rfl⟩ := hu
  rfl

set_option maxRecDepth 100000 in
set_option maxHeartbeats 1000000 in
theorem put_1 (base : Nat) (v : Value) (n : Nat) (xs : List Value) (r : Int) (w : World) (hown : w.ownsRow base 5 1 v n xs) (h0 : 0 ≤ r) (h1 : r < 128) (hb : base ≤ w.heap.size) (hn : n + 4 ≤ 140737488355328) :
    Calls Tryd.prog 154 #[v, .int .i64 r] w fun e w' => ∃ v', e = .returned v' ∧ w'.ownsRow base 5 1 v' (n + 1) (xs ++ [r].map (Value.int .u8)) ∧ Below base w w' := by
  obtain ⟨i0, hi0, hz0, hz1, hz2⟩ := info_parts u8_info
  have HL := hown.lt
  go_enter Tryd.func154, Tryd.ntmps154
  go_wp2_with (first | (at_builtin; refine wpList_append_own _ rfl _ _ 36 rfl base 5 i0 (.int .u8 0) 1 1 Tryd.underlying36 hi0 hz0 hz1 hz2 rfl (by decide) v n xs rfl (hown.alloc _) ⟨w.heap.size, 0, none⟩ 1 1 ([r].map (Value.int .u8)) rfl rfl (cells_new w ([r].map (Value.int .u8)) _) (ints_one _ _) (by unfold maxLen; omega) (by omega) (by simp; omega) ?_; intro v' w1 hown1 hgrow1 _))
  go_ret
  exact ⟨v', rfl, hown1, ((Below.refl base w).alloc hb _).grown hgrow1 (by simp; omega) (fun k hk => (HL k hk).1)⟩

set_option maxRecDepth 100000 in
set_option maxHeartbeats 1000000 in
theorem put_2 (base : Nat) (v : Value) (n : Nat) (xs : List Value) (r : Int) (w : World) (hown : w.ownsRow base 5 1 v n xs) (h0 : 128 ≤ r) (h1 : r < 2048) (hb : base ≤ w.heap.size) (hn : n + 4 ≤ 140737488355328) :
    Calls Tryd.prog 154 #[v, .int .i64 r] w fun e w' => ∃ v', e = .returned v' ∧ w'.ownsRow base 5 1 v' (n + 2) (xs ++ [192 + r / 64, 128 + r % 64].map (Value.int .u8)) ∧ Below base w w' := by
  obtain ⟨i0, hi0, hz0, hz1, hz2⟩ := info_parts u8_info
  have HL := hown.lt
  have f1 := u8_or192 (r / 64) (by omega) (by omega)
  have f2 : r / 64 % 256 = r / 64 := by omega
  go_enter Tryd.func154, Tryd.ntmps154
  go_wp2_with (first | (go_at_call 181; refine (low_any _ _ (by omega) (by omega)).mono ?_; rintro e w' ⟨rfl, rfl⟩) | (at_builtin; refine wpList_append_own _ rfl _ _ 36 rfl base 5 i0 (.int .u8 0) 1 1 Tryd.underlying36 hi0 hz0 hz1 hz2 rfl (by decide) v n xs rfl (hown.alloc _) ⟨w.heap.size, 0, none⟩ 2 2 ([192 + r / 64, 128 + r % 64].map (Value.int .u8)) rfl rfl (cells_new w ([192 + r / 64, 128 + r % 64].map (Value.int .u8)) _) (ints_one _ _) (by unfold maxLen; omega) (by omega) (by simp; omega) ?_; intro v' w1 hown1 hgrow1 _))
  go_ret
  exact ⟨v', rfl, hown1, ((Below.refl base w).alloc hb _).grown hgrow1 (by simp; omega) (fun k hk => (HL k hk).1)⟩

set_option maxRecDepth 100000 in
set_option maxHeartbeats 1000000 in
theorem put_3 (base : Nat) (v : Value) (n : Nat) (xs : List Value) (r : Int) (w : World) (hown : w.ownsRow base 5 1 v n xs) (h0 : 2048 ≤ r) (h1 : r < 65536) (hb : base ≤ w.heap.size) (hn : n + 4 ≤ 140737488355328) :
    Calls Tryd.prog 154 #[v, .int .i64 r] w fun e w' => ∃ v', e = .returned v' ∧ w'.ownsRow base 5 1 v' (n + 3) (xs ++ [224 + r / 4096, 128 + r / 64 % 64, 128 + r % 64].map (Value.int .u8)) ∧ Below base w w' := by
  obtain ⟨i0, hi0, hz0, hz1, hz2⟩ := info_parts u8_info
  have HL := hown.lt
  have f1 := u8_or224 (r / 4096) (by omega) (by omega)
  have f2 : r / 4096 % 256 = r / 4096 := by omega
  go_enter Tryd.func154, Tryd.ntmps154
  go_wp2_with (first | (go_at_call 181; refine (low_any _ _ (by omega) (by omega)).mono ?_; rintro e w' ⟨rfl, rfl⟩) | (at_builtin; refine wpList_append_own _ rfl _ _ 36 rfl base 5 i0 (.int .u8 0) 1 1 Tryd.underlying36 hi0 hz0 hz1 hz2 rfl (by decide) v n xs rfl (hown.alloc _) ⟨w.heap.size, 0, none⟩ 3 3 ([224 + r / 4096, 128 + r / 64 % 64, 128 + r % 64].map (Value.int .u8)) rfl rfl (cells_new w ([224 + r / 4096, 128 + r / 64 % 64, 128 + r % 64].map (Value.int .u8)) _) (ints_one _ _) (by unfold maxLen; omega) (by omega) (by simp; omega) ?_; intro v' w1 hown1 hgrow1 _))
  go_ret
  exact ⟨v', rfl, hown1, ((Below.refl base w).alloc hb _).grown hgrow1 (by simp; omega) (fun k hk => (HL k hk).1)⟩

set_option maxRecDepth 100000 in
set_option maxHeartbeats 1000000 in
theorem put_4 (base : Nat) (v : Value) (n : Nat) (xs : List Value) (r : Int) (w : World) (hown : w.ownsRow base 5 1 v n xs) (h0 : 65536 ≤ r) (h1 : r < 2097152) (hb : base ≤ w.heap.size) (hn : n + 4 ≤ 140737488355328) :
    Calls Tryd.prog 154 #[v, .int .i64 r] w fun e w' => ∃ v', e = .returned v' ∧ w'.ownsRow base 5 1 v' (n + 4) (xs ++ [240 + r / 262144, 128 + r / 4096 % 64, 128 + r / 64 % 64, 128 + r % 64].map (Value.int .u8)) ∧ Below base w w' := by
  obtain ⟨i0, hi0, hz0, hz1, hz2⟩ := info_parts u8_info
  have HL := hown.lt
  have f1 := u8_or240 (r / 262144) (by omega) (by omega)
  have f2 : r / 262144 % 256 = r / 262144 := by omega
  go_enter Tryd.func154, Tryd.ntmps154
  go_wp2_with (first | (go_at_call 181; refine (low_any _ _ (by omega) (by omega)).mono ?_; rintro e w' ⟨rfl, rfl⟩) | (at_builtin; refine wpList_append_own _ rfl _ _ 36 rfl base 5 i0 (.int .u8 0) 1 1 Tryd.underlying36 hi0 hz0 hz1 hz2 rfl (by decide) v n xs rfl (hown.alloc _) ⟨w.heap.size, 0, none⟩ 4 4 ([240 + r / 262144, 128 + r / 4096 % 64, 128 + r / 64 % 64, 128 + r % 64].map (Value.int .u8)) rfl rfl (cells_new w ([240 + r / 262144, 128 + r / 4096 % 64, 128 + r / 64 % 64, 128 + r % 64].map (Value.int .u8)) _) (ints_one _ _) (by unfold maxLen; omega) (by omega) (by simp; omega) ?_; intro v' w1 hown1 hgrow1 _))
  go_ret
  exact ⟨v', rfl, hown1, ((Below.refl base w).alloc hb _).grown hgrow1 (by simp; omega) (fun k hk => (HL k hk).1)⟩

theorem put_any (base : Nat) (v : Value) (n : Nat) (xs : List Value) (r : Int) (w : World) (hown : w.ownsRow base 5 1 v n xs) (h0 : 0 ≤ r) (h1 : r < 2097152) (hb : base ≤ w.heap.size) (hn : n + 4 ≤ 140737488355328) :
    Calls Tryd.prog 154 #[v, .int .i64 r] w fun e w' => ∃ v', e = .returned v' ∧ w'.ownsRow base 5 1 v' (n + encLen r.toNat) (xs ++ vB (encB r.toNat)) ∧ Below base w w' := by
  by_cases c1 : r < 128
  · rw [(enc_1 h0 c1).1, show vB (encB r.toNat) = [r].map (Value.int .u8) from congrArg Array.toList (enc_1 h0 c1).2]
    exact put_1 base v n xs r w hown h0 c1 hb hn
  by_cases c2 : r < 2048
  · rw [(enc_2 (by omega) c2).1, show vB (encB r.toNat) = [192 + r / 64, 128 + r % 64].map (Value.int .u8) from congrArg Array.toList (enc_2 (by omega) c2).2]
    exact put_2 base v n xs r w hown (by omega) c2 hb hn
  by_cases c3 : r < 65536
  · rw [(enc_3 (by omega) c3).1, show vB (encB r.toNat) = [224 + r / 4096, 128 + r / 64 % 64, 128 + r % 64].map (Value.int .u8) from congrArg Array.toList (enc_3 (by omega) c3).2]
    exact put_3 base v n xs r w hown (by omega) c3 hb hn
  · rw [(enc_4 (by omega) h1).1, show vB (encB r.toNat) = [240 + r / 262144, 128 + r / 4096 % 64, 128 + r / 64 % 64, 128 + r % 64].map (Value.int .u8) from congrArg Array.toList (enc_4 (by omega) h1).2]
    exact put_4 base v n xs r w hown (by omega) h1 hb hn

set_option maxHeartbeats 400000 in
theorem encode_bad (r : Int) (w : World) (h : isR r = false) :
    Calls Tryd.prog 126 #[.int .i64 r] w fun e w' => e = .returned (.tuple #[.slice none 0 0, .int .i64 6]) ∧ w = w' := by
  go_enter Tryd.func126, Tryd.ntmps126
  go_wp2_with (go_at_call 153; refine (is_any _ _).mono ?_; rintro e w' ⟨rfl, rfl⟩)
  go_ret2
  exact ⟨rfl, rfl⟩
set_option maxHeartbeats 400000 in
theorem encode_good (r : Int) (w : World) (h : isR r = true) :
    Calls Tryd.prog 126 #[.int .i64 r] w fun e w' => ∃ v', e = .returned (.tuple #[v', .int .i64 0]) ∧ w'.ownsRow w.heap.size 5 1 v' (encLen r.toNat) (vB (encB r.toNat)) ∧ Below w.heap.size w w' := by
  have hb := isR_true h
  have HP := fun w' hw => put_any w.heap.size (.slice none 0 0) 0 [] r w' (World.ownsRow_nil _ _ _ _) (by omega) (by omega) hw (by omega)
  simp only [Nat.zero_add, List.nil_append] at HP
  have H1 := Lib.hid HP
  clear HP hb
  go_enter Tryd.func126, Tryd.ntmps126
  go_wp2_with (first | (go_at_call 153; refine (is_any _ _).mono ?_; rintro e w' ⟨rfl, rfl⟩) | (go_at_call 154; refine (H1.out _ (Nat.le_refl _)).mono ?_; rintro e w' ⟨v', rfl, hown, hbel⟩))
  go_ret2
  exact ⟨v', rfl, hown, hbel⟩
end Go.Proofs.YtdmfladcldkmeaaDoor
