/- The page's example of layer 4; the walk of EolWheres. -/
import Derived.Test.YtpgpniemkmiljaaEolD
import Derived.Laws.IdiomStrings
import Derived.Lib.BufferRead
import Derived.Lib.SlBytesConst
namespace Go.Proofs.Ytpgpniemkmiljaa
open Go.ChangeShapes Go.WideShapes Go.ChangeAt Go.RowKit
set_option linter.unusedVariables false

theorem conv_b (w : World) (A : Option Addr) (n c : Nat) (l : List UInt8) (hl : l.length = n) (hs : Sees w A (vB l)) :
    (convert 22 9 (.slice A n c)).run Try.prog w = .ok (.string ⟨l.toArray⟩) w := by
  subst hl
  rcases A with _ | a
  · have h0 : l = [] := by
      cases l with
      | nil => rfl
      | cons x l =>
        obtain ⟨ad, h, _⟩ := hs (by unfold vB; simp)
        cases h
    subst h0
    exact Lib.run_convert_nil_bytes w _ _ 5 c Try.underlying22 Try.underlying5 Try.underlying9
  · refine run_convert_bytes_back w _ _ 5 a c l Try.underlying22 Try.underlying5 Try.underlying9 (fun j hj => ?_)
    obtain ⟨ad, e, hc⟩ := hs.byte (k := j) hj
    obtain rfl : a = ad := by injection e
    rw [hc]
    unfold byteAt
    rw [List.getElem?_eq_getElem hj]; rfl
theorem open_b8 {w : World} {x : Addr} {len cap : Nat} {zs : List Int} (hz : zs.length = cap) (hl : len ≤ cap) (hc : ∀ i, i < zs.length → w.cell? (x.add i) = some (.int .u8 (zs.getD i 0)))
    (hw : ∀ n ∈ zs, (Lit.int .u8 n).wf = true) : ∃ l : List UInt8, l.length = len ∧ Sees w (some x) (vB l) := by
  obtain ⟨h1, h2⟩ := sees_row hz hl hc
  refine ⟨(zs.take len).map fun z => UInt8.ofNat z.toNat, by rw [List.length_map, h1], ?_⟩
  have e : vB ((zs.take len).map fun z => UInt8.ofNat z.toNat) = (zs.take len).map (Value.int .u8) := by
    unfold vB
    rw [List.map_map]
    apply List.map_congr_left
    intro z hz
    have := bounds_u8 (hw z (List.mem_of_mem_take hz))
    show Value.int .u8 _ = _
    congr 1
    rw [UInt8.toNat_ofNat']
    omega
  rw [e]
  exact h2
theorem sees_made (w : World) (l : List Value) (t : TypeId) : Sees (w.alloc (.cells l.toArray t)) (some ⟨w.heap.size, 0, none⟩) l :=
  fun _ => ⟨_, rfl, b_cells w l t⟩

theorem sees_madeF (w : World) (l : List Value) (t : TypeId) (f : Nat × Nat) : Sees (w.alloc (.cells l.toArray t f)) (some ⟨w.heap.size, 0, none⟩) l := by
  intro _
  refine ⟨_, rfl, fun j u h => ?_⟩
  have e : (⟨w.heap.size, 0, none⟩ : Addr).add j = ⟨w.heap.size, j, none⟩ := by
    unfold Addr.add; split
    · next h0 => rw [h0]
    · simp
  have hh : (w.alloc (.cells l.toArray t f)).heap[w.heap.size]? = some (.cells l.toArray t f) := by
    show (w.heap.push _)[w.heap.size]? = _
    simp
  rw [e]
  unfold World.cell?
  rw [hh]
  simpa using h

set_option maxRecDepth 100000 in
set_option maxHeartbeats 1000000 in
theorem live04_any (w : World) : Calls Try.prog 19 #[] w fun e w' => e = .returned (.bool true) ∧ Below w.heap.size w w' := by
  have hb0 := (Below.refl _ w).alloc (Nat.le_refl _) (.cells #[.int .u8 97, .int .u8 13, .int .u8 10, .int .u8 98, .int .u8 13, .int .u8 99] 5 (6, 7))
  have H1 := Lib.hid (norm_any (w.alloc (.cells #[.int .u8 97, .int .u8 13, .int .u8 10, .int .u8 98, .int .u8 13, .int .u8 99] 5 (6, 7))) (some ⟨w.heap.size, 0, none⟩) 6 6 [97, 13, 10, 98, 13, 99] rfl (by omega) (sees_madeF w (vB [97, 13, 10, 98, 13, 99]) _ _))
  have kc := fun (w : World) (C : Array Value) (n c : Nat) => Lib.run_convert_bytes_const (P := Try.prog) w 22 5 C n c Try.underlying22 Try.underlying5
  go_enter Try.func19, Try.ntmps19
  go_wp2_with fail
  refine H1.out.mono ?_
  rintro e w1 ⟨A1, c1, rfl, hs1, hc1, hm1, hb1⟩
  have e5 : normS [97, 13, 10, 98, 13, 99] = [97, 10, 98, 10, 99] := by decide
  rw [e5] at hs1 hc1 ⊢
  have H2 := Lib.hid (show Calls Try.prog 23 #[.slice A1 5 c1, .int .i64 4] w1 fun e w' => e = .returned (.tuple #[.int .i64 3, .int .i64 0, .int .i64 0]) ∧ Below w1.heap.size w1 w' from
    where_in w1 A1 5 c1 4 [97, 10, 98, 10, 99] rfl hc1 (by omega) hm1 (by omega) hs1)
  have HS := Lib.hid hs1
  clear hs1 e5
  go_wp2_with (go_at_call 23; refine H2.out.mono ?_; rintro e w2 ⟨rfl, hb2⟩; have kc := conv_b w2 A1 5 c1 [97, 10, 98, 10, 99] rfl (HS.out.below hb2))
  go_ret
  exact ⟨rfl, (hb0.trans (hb1.mono (by simp))).trans (hb2.mono (by have := hb1.size; simp at this; omega))⟩

set_option maxRecDepth 100000 in
set_option maxHeartbeats 2000000 in
theorem eolWheres_any (w : World) (A : Option Addr) (n c : Nat) (k : Int) (l : List UInt8) (hn : l.length = n) (hnc : n ≤ c) (hcm : c ≤ 9223372036854775807) (hk : I64 k) (hs : Sees w A (vB l)) :
    Calls Try.prog 5 #[.slice A n c, .int .i64 k] w fun e w' => e = .returned (.bool true) ∧ Below w.heap.size w w' := by
  obtain ⟨hk1, hk2⟩ := hk
  by_cases hbig : 200 < n
  · go_enter Try.func5, Try.ntmps5
    go_wp2_with (go_at_call 19; refine (live04_any _).mono ?_; rintro e w3 ⟨rfl, hb3⟩)
    go_ret
    exact ⟨rfl, hb3⟩
  have RW := Lib.hid (fun W (hW : Below w.heap.size w W) => rwhere_any W A n c n l hn (by omega) (Nat.le_refl _) (hs.below hW))
  have LN := Lib.hid (fun W (hW : Below w.heap.size w W) => lines_any W A n c l hn (by omega) (hs.below hW))
  by_cases hout : k < 0 ∨ (n : Int) < k
  · have WO := Lib.hid (fun W => where_out W A n c k (by omega) hout)
    have hb0 : Below w.heap.size w w := Below.refl _ _
    obtain ⟨x, hx⟩ : ∃ x, lineN l n = x := ⟨_, rfl⟩
    rw [hx] at RW LN
    clear hs hn hx
    rcases hout with h1 | h1
    · go_enter Try.func5, Try.ntmps5
      go_wp2_with (first
        | (go_at_call 23; refine (WO.out _).mono ?_; rintro e w' ⟨rfl, rfl⟩)
        | (go_at_call 24; refine (RW.out _ hb0).mono ?_; rintro e w' ⟨rfl, rfl⟩)
        | (go_at_call 25; refine (LN.out _ hb0).mono ?_; rintro e w2 ⟨rfl, hb2⟩)
        | (go_at_call 19; refine (live04_any _).mono ?_; rintro e w3 ⟨rfl, hb3⟩))
      go_ret
      exact ⟨rfl, hb2.trans (hb3.mono hb2.size)⟩
    · have h0 : ¬ k < 0 := by omega
      go_enter Try.func5, Try.ntmps5
      go_wp2_with (first
        | (go_at_call 23; refine (WO.out _).mono ?_; rintro e w' ⟨rfl, rfl⟩)
        | (go_at_call 24; refine (RW.out _ hb0).mono ?_; rintro e w' ⟨rfl, rfl⟩)
        | (go_at_call 25; refine (LN.out _ hb0).mono ?_; rintro e w2 ⟨rfl, hb2⟩)
        | (go_at_call 19; refine (live04_any _).mono ?_; rintro e w3 ⟨rfl, hb3⟩))
      go_ret
      exact ⟨rfl, hb2.trans (hb3.mono hb2.size)⟩
  · obtain ⟨q, rfl⟩ : ∃ q : Nat, k = q := ⟨k.toNat, by omega⟩
    have hqn : q ≤ n := by omega
    have WI := Lib.hid (where_in w A n c q l hn hnc (by omega) hcm hqn hs)
    have RQ := Lib.hid (fun W (hW : Below w.heap.size w W) => rwhere_any W A n c q l hn (by omega) hqn (hs.below hW))
    obtain ⟨x, hx⟩ : ∃ x, lineN l n = x := ⟨_, rfl⟩
    obtain ⟨y, hy⟩ : ∃ y, colN l n = y := ⟨_, rfl⟩
    obtain ⟨u, hu⟩ : ∃ u, lineN l q = u := ⟨_, rfl⟩
    obtain ⟨v, hv⟩ : ∃ v, colN l q = v := ⟨_, rfl⟩
    rw [hx, hy] at RW
    rw [hx] at LN
    rw [hu, hv] at WI RQ
    have h0 : ¬ ((q : Int) < 0) := by omega
    have h1 : ¬ ((n : Int) < (q : Int)) := by omega
    clear hs hn hx hy hu hv hout
    go_enter Try.func5, Try.ntmps5
    go_wp2_with (first
      | (go_at_call 23; refine WI.out.mono ?_; rintro e w1 ⟨rfl, hb1⟩)
      | (go_at_call 24; (with_reducible refine (RW.out _ (by assumption)).mono ?_); rintro e w' ⟨rfl, rfl⟩)
      | (go_at_call 24; (with_reducible refine (RQ.out _ (by assumption)).mono ?_); rintro e w' ⟨rfl, rfl⟩)
      | (go_at_call 25; refine (LN.out _ (by assumption)).mono ?_; rintro e w2 ⟨rfl, hb2⟩; have hb12 := hb1.trans (hb2.mono hb1.size))
      | (go_at_call 19; refine (live04_any _).mono ?_; rintro e w3 ⟨rfl, hb3⟩))
    go_ret
    exact ⟨rfl, hb12.trans (hb3.mono hb12.size)⟩
end Go.Proofs.Ytpgpniemkmiljaa
