/- Texts that stand side by side are one: the document's row of events. -/
import Derived.Test.YtoiplpmjocemfaaEvv
import Derived.Test.YtoiplpmjocemfaaDfe
import Derived.Test.YtoiplpmjocemfaaDpe
namespace Go.Proofs.Ytoiplpmjocemfaa
open Go.ChangeShapes Go.WideShapes Go.ChangeAt Go.RowKit
set_option linter.unusedVariables false
set_option maxRecDepth 100000

theorem evInfo : (Try.prog.info? 76).map (fun i => (i.zero, i.size, i.bytes)) = some (some (.agg #[.int .i64 0, .string ⟨#[]⟩, .string ⟨#[]⟩, .slice none 0 0, .string ⟨#[]⟩]), 5, 80) := by kernel_rfl
theorem evsV_one (l : List Ev) : ∀ u ∈ evsV l, u.oneCell' = true := by
  intro u hu
  unfold evsV at hu
  rw [List.mem_flatMap] at hu
  obtain ⟨e, _, hu⟩ := hu
  simp only [evC, List.mem_cons, List.not_mem_nil, or_false] at hu
  rcases hu with rfl | rfl | rfl | rfl | rfl <;> rfl
theorem evsV_append (l m : List Ev) : evsV (l ++ m) = evsV l ++ evsV m := by unfold evsV; rw [List.flatMap_append]
/-- A text, as an event. -/
def textE (t : List UInt8) : Ev := ⟨3, ⟨#[]⟩, ⟨#[]⟩, [], none, 0, ⟨t.toArray⟩⟩
def flushJ (s : List Ev × List UInt8) : List Ev := if s.2 = [] then s.1 else s.1 ++ [textE s.2]
def stepJ (s : List Ev × List UInt8) (e : Ev) : List Ev × List UInt8 := if e.kind = 3 then (s.1, s.2 ++ e.tx.toList) else (flushJ s ++ [e], [])
/-- What is told of the first events, and the text that waits. -/
def joinN (l : List Ev) : Nat → List Ev × List UInt8
  | 0 => ([], [])
  | k + 1 => match l[k]? with | some e => stepJ (joinN l k) e | none => joinN l k
theorem joinN_at {l : List Ev} {k : Nat} {e : Ev} (h : l[k]? = some e) : joinN l (k + 1) = stepJ (joinN l k) e := by rw [joinN, h]
/-- What is told of all of them. -/
def joinA (l : List Ev) : List Ev := flushJ (joinN l l.length)
theorem flushJ_len (s : List Ev × List UInt8) : (flushJ s).length ≤ s.1.length + 1 := by unfold flushJ; split <;> simp
theorem joinN_len (l : List Ev) : ∀ k, (joinN l k).1.length ≤ 2 * k ∧ (joinN l k).2.length ≤ txLen l k
  | 0 => by simp [joinN]
  | k + 1 => by
    have ih := joinN_len l k
    rw [joinN, txLen]
    cases h : l[k]? with
    | none => simp only; omega
    | some e =>
      simp only
      unfold stepJ
      split
      · simp only [List.length_append]; omega
      · have := flushJ_len (joinN l k)
        simp only [List.length_append, List.length_cons, List.length_nil]
        omega
/-- Each is one that came in, or a text. -/
def FromJ (l o : List Ev) : Prop := ∀ e ∈ o, e ∈ l ∨ ∃ t, e = textE t
theorem FromJ.flush {l : List Ev} {s : List Ev × List UInt8} (h : FromJ l s.1) : FromJ l (flushJ s) := by
  unfold flushJ
  split
  · exact h
  · intro e he
    rcases List.mem_append.1 he with h1 | h1
    · exact h e h1
    · exact .inr ⟨_, by simpa using h1⟩
theorem FromJ.join (l : List Ev) : ∀ k, FromJ l (joinN l k).1
  | 0 => fun e he => absurd he (by simp [joinN])
  | k + 1 => by
    have ih := FromJ.join l k
    rw [joinN]
    split
    · next e he =>
      unfold stepJ
      split
      · exact ih
      · intro x hx
        rcases List.mem_append.1 hx with h1 | h1
        · exact ih.flush x h1
        · exact .inl (by rw [List.mem_singleton.1 h1]; exact List.mem_of_getElem? he)
    · exact ih
theorem FromJ.ok {l o : List Ev} {w : World} (h : FromJ l o) (hl : ∀ e ∈ l, EvOk w e) : ∀ e ∈ o, EvOk w e := by
  intro e he
  rcases h e he with h1 | ⟨t, rfl⟩
  · exact hl e h1
  · exact ⟨sees_nil _ _, Nat.le_refl _, by unfold textE; simp, ⟨by unfold textE; simp, by unfold textE; simp⟩⟩
/-- A row of one event that has just been made. -/
theorem ev_new (w : World) (e : Ev) (t : TypeId) : ∀ j u, (evsV [e])[j]? = some u → (w.alloc (.cells #[.int .i64 e.kind, .string e.sp, .string e.lo, .slice e.A e.at_.length e.c, .string e.tx] t)).cell? ((⟨w.heap.size, 0, none⟩ : Addr).add j) = some u := by
  intro j u h
  have h' : [Value.int .i64 e.kind, .string e.sp, .string e.lo, .slice e.A e.at_.length e.c, .string e.tx][j]? = some u := h
  match j, h' with
  | 0, h => obtain rfl := Option.some.inj h; simp [Addr.add, World.cell?_alloc_new]
  | 1, h => obtain rfl := Option.some.inj h; simp [Addr.add, World.cell?_alloc_new]
  | 2, h => obtain rfl := Option.some.inj h; simp [Addr.add, World.cell?_alloc_new]
  | 3, h => obtain rfl := Option.some.inj h; simp [Addr.add, World.cell?_alloc_new]
  | 4, h => obtain rfl := Option.some.inj h; simp [Addr.add, World.cell?_alloc_new]
  | j + 5, h => simp at h
theorem neqNil (t : List UInt8) (w : World) : (binOp .neq 9 (.string ⟨t.toArray⟩) (.string ⟨#[]⟩)).run Try.prog w = .ok (.bool (decide (t ≠ []))) w := by
  by_cases h : t = []
  · subst h
    simp [go_sem]
  · simp [go_sem, h]

def RJoinRel (l : List Ev) (n : Nat) (w : World) (v t i : Value) (wr : World) : Prop :=
  ∃ (j q : Nat) (B : Option Addr) (d : Nat) (o : List Ev) (s : List UInt8), j ≤ n + 1 ∧ i = .int .i64 j ∧ v = .slice B q d ∧ t = .string ⟨s.toArray⟩ ∧ o.length = q ∧ q ≤ 2 * j ∧ Hid (wr.ownsRow w.heap.size 76 5 (.slice B q d) q (evsV o)) ∧
    Hid (if j ≤ n then joinN l j = (o, s) else joinA l = o) ∧ s.length ≤ txLen l n ∧ Below w.heap.size w wr
theorem own_capK {w : World} {base : Nat} {e : TypeId} {A : Option Addr} {n m c size : Nat} {xs : List Value} (h : w.ownsRow base e size (.slice A m c) n xs) : n ≤ c ∧ c ≤ 9223372036854775807 := by
  rcases h.2 with ⟨h1, h2⟩ | ⟨g, cap, cur, h1, _, _, h4, h5, _⟩
  · injection h1 with _ _ h3; omega
  · injection h1 with _ _ h3
    unfold maxLen at h5
    omega
theorem own_seesK {w : World} {base : Nat} {e : TypeId} {A : Option Addr} {n m c size : Nat} {xs : List Value} (h : w.ownsRow base e size (.slice A m c) n xs) : Sees w A xs := by
  intro hne
  rcases h.2 with ⟨h1, h2⟩ | ⟨g, cap, cur, h1, h2, h3, h4⟩
  · have := h.1
    subst h2
    exact absurd (List.eq_nil_of_length_eq_zero (by simpa using this)) hne
  · injection h1 with h5
    refine ⟨⟨g, 0, none⟩, h5, fun j u hu => h.cells (g := g) ?_ j u hu⟩
    rw [h5]; rfl
def EvsPost (w : World) (o : List Ev) (e : Ending) (w' : World) : Prop :=
  ∃ A c, e = .returned (.slice A o.length c) ∧ EvsOk w' A o ∧ o.length ≤ c ∧ c ≤ 9223372036854775807 ∧ Below w.heap.size w w'

set_option maxHeartbeats 8000000 in
theorem rjoin_any (l : List Ev) (A : Option Addr) (n c : Nat) (w : World) (hl : l.length = n) (hnc : n ≤ c) (hc9 : c ≤ 9223372036854775807) (hn9 : n ≤ 1000000) (ht : txLen l n ≤ 9223372036854775807) (hA : EvsOk w A l) :
    Calls Try.prog 45 #[.slice A n c] w (EvsPost w (joinA l)) := by
  have HL := Lib.hid hl
  have HA := Lib.hid hA
  obtain ⟨i0, hi0, hz0, hz1, hz2⟩ := info_parts evInfo
  clear hl hA
  go_enter Try.func45, Try.ntmps45
  go_wp2_with fail
  go_loopw [3, 4, 5] (fun v t i wr => RJoinRel l n w v t i wr) (fun _ _ i _ => n + 1 - (intOf i).toNat)
  case atStart => exact ⟨0, 0, none, 0, [], [], by omega, rfl, rfl, rfl, rfl, by omega, Lib.hid (World.ownsRow_nil _ _ _ _), Lib.hid (by rw [if_pos (Nat.zero_le _)]; rfl), by simp, Below.refl _ _⟩
  case round =>
    obtain ⟨j, q, B2, d2, o, s, hj, rfl, rfl, rfl, hq, hq2, HO, HJ, hs9, hbw⟩ := hrel
    have hws := hbw.size
    have HQ := Lib.hid hq
    clear hq
    by_cases hlt : j < n
    · obtain ⟨a, ha⟩ : ∃ a, l[j]? = some a := ⟨_, List.getElem?_eq_getElem (by rw [HL.out]; omega)⟩
      obtain ⟨x, rfl, x0, x1, x2, x3, x4⟩ := (HA.out.below hbw).sees.ev ha
      have hJ := HJ.out
      rw [if_pos (by omega)] at hJ
      have HN := Lib.hid (joinN_at ha)
      rw [hJ] at HN
      have hlen := (joinN_len l (j + 1)).2
      have hmono := txLen_mono l (show j + 1 ≤ n from hlt)
      have i0' : (0 : Int) ≤ (j : Int) := by omega
      have i1 : (j : Int) < (n : Int) := by omega
      have i2 : (j : Int) ≤ (n : Int) := by omega
      have HG := Lib.hid ha
      clear ha HJ hJ
      by_cases hk1 : a.kind = 3
      · have t1 : (a.kind == 3) = true := by simpa using hk1
        have HS := Lib.hid (show joinN l (j + 1) = (o, s ++ a.tx.toList) by rw [HN.out]; unfold stepJ; rw [if_pos hk1])
        rw [HS.out] at hlen
        obtain ⟨tx, htx⟩ : ∃ tx, a.tx.toList = tx := ⟨_, rfl⟩
        have hs : a.tx = ⟨tx.toArray⟩ := by rw [← htx]; exact str_eta _
        rw [hs] at x4
        rw [htx] at HS hlen
        simp only [List.length_append] at hlen
        have h3 : ¬ 9223372036854775807 < s.length + tx.length := by omega
        clear hk1 htx hs
        go_wp2_with fail
        go_roundw
        case rel => exact ⟨j + 1, q, B2, d2, o, s ++ tx, by omega, by go_num, rfl, by rw [← tx_app], HQ.out, by omega, HO, Lib.hid (by rw [if_pos (by omega)]; exact HS.out), by rw [List.length_append]; omega, hbw⟩
        case measure => simp [intOf]; omega
      · have t1 : (a.kind == 3) = false := by simpa using hk1
        by_cases hs0 : s = []
        · have HS := Lib.hid (show joinN l (j + 1) = (o ++ [a], []) by rw [HN.out]; unfold stepJ flushJ; rw [if_neg hk1, if_pos hs0])
          have e1 : s.isEmpty = true := by simp [hs0]
          clear hk1 hs0
          go_wp2_with (first | (at_builtin; refine wpList_append_own _ rfl _ _ 66 rfl w.heap.size 76 i0 (.agg #[.int .i64 0, .string ⟨#[]⟩, .string ⟨#[]⟩, .slice none 0 0, .string ⟨#[]⟩]) 5 80 Try.underlying66 hi0 hz0 hz1 hz2 rfl (by decide) _ q (evsV o) rfl (HO.out.alloc _) ⟨wr.heap.size, 0, none⟩ 1 1 (evsV [a]) rfl rfl (ev_new wr (a) _) (evsV_one _) (by unfold maxLen; omega) (by omega) (by simp; omega) ?_; intro v' w6 hown6 hgrow6 _; obtain ⟨B6, d6, rfl⟩ := own_form2 hown6; have HO6 := Lib.hid hown6; have HB6 := (hbw.alloc hws (.cells #[.int .i64 a.kind, .string a.sp, .string a.lo, .slice a.A a.at_.length a.c, .string a.tx] 76)).grown hgrow6 (by simp; omega) (fun g hg => (HO.out.lt g hg).1); have hws6 := HB6.size; clear hown6 hgrow6))
          go_roundw
          case rel => exact ⟨j + 1, q + 1, B6, d6, o ++ [a], [], by omega, by go_num, rfl, rfl, by rw [List.length_append, HQ.out]; rfl, by omega, Lib.hid (by rw [evsV_append]; exact HO6.out), Lib.hid (by rw [if_pos (by omega)]; exact HS.out), by simp, HB6⟩
          case measure => simp [intOf]; omega
        · have HS := Lib.hid (show joinN l (j + 1) = (o ++ [textE s] ++ [a], []) by rw [HN.out]; unfold stepJ flushJ; rw [if_neg hk1, if_neg hs0])
          have e1 : s.isEmpty = false := by simpa using hs0
          have HC := Lib.hid (fun (w' : World) (hb : Below w.heap.size w w') => (HA.out.below hb).sees.ev HG.out)
          clear hk1 hs0
          go_wp2_with (first | (at_builtin; refine wpList_append_own _ rfl _ _ 66 rfl w.heap.size 76 i0 (.agg #[.int .i64 0, .string ⟨#[]⟩, .string ⟨#[]⟩, .slice none 0 0, .string ⟨#[]⟩]) 5 80 Try.underlying66 hi0 hz0 hz1 hz2 rfl (by decide) _ q (evsV o) rfl (HO.out.alloc _) ⟨wr.heap.size, 0, none⟩ 1 1 (evsV [textE s]) rfl rfl (ev_new wr (textE s) _) (evsV_one _) (by unfold maxLen; omega) (by omega) (by simp; omega) ?_; intro v' w5 hown5 hgrow5 _; obtain ⟨B5, d5, rfl⟩ := own_form2 hown5; have HO5 := Lib.hid hown5; have HB5 := (hbw.alloc hws (.cells #[.int .i64 3, .string ⟨#[]⟩, .string ⟨#[]⟩, .slice none 0 0, .string ⟨s.toArray⟩] 76)).grown hgrow5 (by simp; omega) (fun g hg => (HO.out.lt g hg).1); have hws5 := HB5.size; clear hown5 hgrow5; obtain ⟨y, hy, y0, y1, y2, y3, y4⟩ := HC.out w5 HB5; injection hy with hy; subst hy; rw [← evsV_append] at HO5) | (at_builtin; refine wpList_append_own _ rfl _ _ 66 rfl w.heap.size 76 i0 (.agg #[.int .i64 0, .string ⟨#[]⟩, .string ⟨#[]⟩, .slice none 0 0, .string ⟨#[]⟩]) 5 80 Try.underlying66 hi0 hz0 hz1 hz2 rfl (by decide) _ (q + 1) (evsV (o ++ [textE s])) rfl (HO5.out.alloc _) ⟨w5.heap.size, 0, none⟩ 1 1 (evsV [a]) rfl rfl (ev_new w5 (a) _) (evsV_one _) (by unfold maxLen; omega) (by omega) (by simp; omega) ?_; intro v' w6 hown6 hgrow6 _; obtain ⟨B6, d6, rfl⟩ := own_form2 hown6; have HO6 := Lib.hid hown6; have HB6 := (HB5.alloc hws5 (.cells #[.int .i64 a.kind, .string a.sp, .string a.lo, .slice a.A a.at_.length a.c, .string a.tx] 76)).grown hgrow6 (by simp; omega) (fun g hg => (HO5.out.lt g hg).1); have hws6 := HB6.size; clear hown6 hgrow6))
          go_roundw
          case rel => exact ⟨j + 1, q + 1 + 1, B6, d6, o ++ [textE s] ++ [a], [], by omega, by go_num, rfl, rfl, by rw [List.length_append, List.length_append, HQ.out]; rfl, by omega, Lib.hid (by rw [evsV_append]; exact HO6.out), Lib.hid (by rw [if_pos (by omega)]; exact HS.out), by simp, HB6⟩
          case measure => simp [intOf]; omega
    · have i3 : ¬ ((j : Int) < (n : Int)) := by omega
      by_cases hjn : j ≤ n
      · obtain rfl : j = n := by omega
        have hJ := HJ.out
        rw [if_pos (Nat.le_refl _)] at hJ
        have HJA := Lib.hid (show joinA l = flushJ (o, s) by unfold joinA; rw [HL.out, hJ])
        clear HJ hJ
        by_cases hs0 : s = []
        · have HS := Lib.hid (show joinA l = o by rw [HJA.out]; unfold flushJ; rw [if_pos hs0])
          have e1 : s.isEmpty = true := by simp [hs0]
          clear hs0
          go_wp2_with fail
          go_roundw
          case rel => exact ⟨j + 1, q, B2, d2, o, [], by omega, by go_num, rfl, rfl, HQ.out, by omega, HO, Lib.hid (by rw [if_neg (by omega)]; exact HS.out), by simp, hbw⟩
          case measure => simp [intOf]
        · have HS := Lib.hid (show joinA l = o ++ [textE s] by rw [HJA.out]; unfold flushJ; rw [if_neg hs0])
          have e1 : s.isEmpty = false := by simpa using hs0
          clear hs0
          go_wp2_with (first | (at_builtin; refine wpList_append_own _ rfl _ _ 66 rfl w.heap.size 76 i0 (.agg #[.int .i64 0, .string ⟨#[]⟩, .string ⟨#[]⟩, .slice none 0 0, .string ⟨#[]⟩]) 5 80 Try.underlying66 hi0 hz0 hz1 hz2 rfl (by decide) _ q (evsV o) rfl (HO.out.alloc _) ⟨wr.heap.size, 0, none⟩ 1 1 (evsV [textE s]) rfl rfl (ev_new wr (textE s) _) (evsV_one _) (by unfold maxLen; omega) (by omega) (by simp; omega) ?_; intro v' w5 hown5 hgrow5 _; obtain ⟨B5, d5, rfl⟩ := own_form2 hown5; have HO5 := Lib.hid hown5; have HB5 := (hbw.alloc hws (.cells #[.int .i64 3, .string ⟨#[]⟩, .string ⟨#[]⟩, .slice none 0 0, .string ⟨s.toArray⟩] 76)).grown hgrow5 (by simp; omega) (fun g hg => (HO.out.lt g hg).1); have hws5 := HB5.size; clear hown5 hgrow5))
          go_roundw
          case rel => exact ⟨j + 1, q + 1, B5, d5, o ++ [textE s], [], by omega, by go_num, rfl, rfl, by rw [List.length_append, HQ.out]; rfl, by omega, Lib.hid (by rw [evsV_append]; exact HO5.out), Lib.hid (by rw [if_neg (by omega)]; exact HS.out), by simp, HB5⟩
          case measure => simp [intOf]
      · obtain rfl : j = n + 1 := by omega
        have hJ := HJ.out
        rw [if_neg (by omega)] at hJ
        have hcp := own_capK HO.out
        clear HJ
        go_wp2_with fail
        go_ret
        have e := HQ.out
        subst e hJ
        have hf : FromJ l (joinA l) := (FromJ.join l l.length).flush
        exact ⟨B2, d2, rfl, ⟨own_seesK HO.out, hf.ok (HA.out.below hbw).each⟩, hcp.1, hcp.2, hbw⟩
end Go.Proofs.Ytoiplpmjocemfaa
