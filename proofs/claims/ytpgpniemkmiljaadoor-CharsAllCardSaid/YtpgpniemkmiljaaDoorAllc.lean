/- CharsAll for any bytes. -/
import Derived.Test.YtpgpniemkmiljaaDoorUtfN
import Derived.Test.YtpgpniemkmiljaaDoorAllb
namespace Go.Proofs.YtpgpniemkmiljaaDoor
open Go.ChangeShapes Go.WideShapes Go.ChangeAt Go.RowKit
set_option linter.unusedVariables false

theorem sees_bytes {w : World} {x : Addr} {len cap : Nat} {zs : List Int} (hz : zs.length = cap) (hl : len ≤ cap) (hc : ∀ i, i < zs.length → w.cell? (x.add i) = some (.int .u8 (zs.getD i 0)))
    (hw : ∀ n ∈ zs, (Lit.int .u8 n).wf = true) : ∃ l : List UInt8, l.length = len ∧ Sees w (some x) (vB l) := by
  obtain ⟨h1, h2⟩ := sees_row hz hl hc
  refine ⟨(zs.take len).map fun z => UInt8.ofNat z.toNat, by rw [List.length_map, h1], ?_⟩
  have e : vB ((zs.take len).map fun z => UInt8.ofNat z.toNat) = (zs.take len).map (Value.int .u8) := by
    unfold vB
    rw [List.map_map]
    apply List.map_congr_left
    intro z hz
    have := bounds_u8 (hw z (List.mem_of_mem_take hz))
    show Value.int .u8 _ = _
    rw [ofNat_toNat (by omega), Int.toNat_of_nonneg this.1]
  rw [e]
  exact h2

theorem charsAll_any (l : List UInt8) (A : Option Addr) (len cap c : Nat) (w : World) (hlen : l.length = len) (hnc : len ≤ cap) (hcap : cap ≤ 9223372036854775807) (hs : Sees w A (vB l)) (hc : c < 256) (ht : Tables w) :
    Calls Tryd.prog 3 #[.slice A len cap, .int .u8 c] w fun e w' => e = .returned (.bool true) ∧ Below w.heap.size w w' := by
  have LV := inv_of ht fun w1 h1 => live_any w1 h1
  by_cases hl : len ≤ 300
  · have D : c % 5 = 0 ∨ c % 5 = 1 ∨ c % 5 = 2 ∨ c % 5 = 3 ∨ c % 5 = 4 := by omega
    cases hb : badS l with
    | none =>
      have hn : (runesS l).length ≤ 17592186044416 := by unfold runesS; rw [List.length_map]; have := stepsS_len l; omega
      have RG : ∀ w1, Below w.heap.size w w1 → Calls Tryd.prog 15 #[.slice A len cap] w1 fun e w' => ∃ A' c', e = .returned (.tuple #[.slice A' (runesS l).length c', .int .i64 0]) ∧ Sees w' A' ((runesS l).map (Value.int .i64)) ∧ Below w.heap.size w w' :=
        fun w1 hB => (runes_any A len cap l hlen hnc hcap (by omega) w1 (hs.below hB)).mono fun e W' ⟨h1, _, hb'⟩ => by
          obtain ⟨v, he, ho⟩ := h1 hb
          obtain ⟨A', c', rfl⟩ := ownsRow_form ho
          exact ⟨A', c', he, sees_own ho, hB.trans (hb'.mono hB.size)⟩
      have RG2 : ∀ w1, Below w.heap.size w w1 → Calls Tryd.prog 18 #[.slice A len cap] w1 fun e w' => ∃ A' c', e = .returned (.tuple #[.slice A' (runesS l).length c', .int .i64 (-1)]) ∧ Sees w' A' ((runesS l).map (Value.int .i64)) ∧ Below w.heap.size w w' :=
        fun w1 hB => (rrunes_any A len cap l hlen (by omega) w1 (hs.below hB)).mono fun e W' ⟨h1, _, hb'⟩ => by
          obtain ⟨v, he, ho⟩ := h1 hb
          obtain ⟨A', c', rfl⟩ := ownsRow_form ho
          exact ⟨A', c', he, sees_own ho, hB.trans (hb'.mono hB.size)⟩
      rcases D with hk | hk | hk | hk | hk
      · exact allLaw_0 A len cap c w ((runesS l).all fun x => cls x 0) hl hc hk (all_good_0 A len cap _ _ (fun x => cls x 0) w rfl hn (fun x w1 hB => char_any x w1 (ht.below hB)) RG) (rall_good A len cap _ _ (fun x => cls x 0) w rfl hn 0 (fun x w1 => rcls_any 0 (by omega) x w1) RG2) LV
      · exact allLaw_1 A len cap c w ((runesS l).all fun x => cls x 1) hl hc hk (all_good_1 A len cap _ _ (fun x => cls x 1) w rfl hn (fun x w1 hB => blankB_any x w1) RG) (rall_good A len cap _ _ (fun x => cls x 1) w rfl hn 1 (fun x w1 => rcls_any 1 (by omega) x w1) RG2) LV
      · exact allLaw_2 A len cap c w ((runesS l).all fun x => cls x 2) hl hc hk (all_good_2 A len cap _ _ (fun x => cls x 2) w rfl hn (fun x w1 hB => nameStart_any x w1 (ht.below hB)) RG) (rall_good A len cap _ _ (fun x => cls x 2) w rfl hn 2 (fun x w1 => rcls_any 2 (by omega) x w1) RG2) LV
      · exact allLaw_3 A len cap c w ((runesS l).all fun x => cls x 3) hl hc hk (all_good_3 A len cap _ _ (fun x => cls x 3) w rfl hn (fun x w1 hB => nameChar_any x w1 (ht.below hB)) RG) (rall_good A len cap _ _ (fun x => cls x 3) w rfl hn 3 (fun x w1 => rcls_any 3 (by omega) x w1) RG2) LV
      · exact allLaw_4 A len cap c w ((runesS l).all fun x => cls x 4) hl hc hk (all_good_4 A len cap _ _ (fun x => cls x 4) w rfl hn (fun x w1 hB => pubid_any x w1 (ht.below hB)) RG) (rall_good A len cap _ _ (fun x => cls x 4) w rfl hn 4 (fun x w1 => rcls_any 4 (by omega) x w1) RG2) LV
    | some m =>
      have RB : ∀ w1, Below w.heap.size w w1 → Calls Tryd.prog 15 #[.slice A len cap] w1 fun e w' => e = .returned (.tuple #[.slice none 0 0, .int .i64 5]) ∧ Below w.heap.size w w' :=
        fun w1 hB => (runes_any A len cap l hlen hnc hcap (by omega) w1 (hs.below hB)).mono fun e W' ⟨_, h2, hb'⟩ => ⟨h2 (by rw [hb]; simp), hB.trans (hb'.mono hB.size)⟩
      have RB2 : ∀ w1, Below w.heap.size w w1 → Calls Tryd.prog 18 #[.slice A len cap] w1 fun e w' => e = .returned (.tuple #[.slice none 0 0, .int .i64 m]) ∧ Below w.heap.size w w' :=
        fun w1 hB => (rrunes_any A len cap l hlen (by omega) w1 (hs.below hB)).mono fun e W' ⟨_, h2, hb'⟩ => ⟨h2 m hb, hB.trans (hb'.mono hB.size)⟩
      rcases D with hk | hk | hk | hk | hk
      · exact allLaw_0 A len cap c w false hl hc hk (all_bad_0 A len cap w RB) (rall_bad A len cap w 0 m RB2) LV
      · exact allLaw_1 A len cap c w false hl hc hk (all_bad_1 A len cap w RB) (rall_bad A len cap w 1 m RB2) LV
      · exact allLaw_2 A len cap c w false hl hc hk (all_bad_2 A len cap w RB) (rall_bad A len cap w 2 m RB2) LV
      · exact allLaw_3 A len cap c w false hl hc hk (all_bad_3 A len cap w RB) (rall_bad A len cap w 3 m RB2) LV
      · exact allLaw_4 A len cap c w false hl hc hk (all_bad_4 A len cap w RB) (rall_bad A len cap w 4 m RB2) LV
  · exact allLaw_far A len cap c w hl (by omega) LV
end Go.Proofs.YtpgpniemkmiljaaDoor
