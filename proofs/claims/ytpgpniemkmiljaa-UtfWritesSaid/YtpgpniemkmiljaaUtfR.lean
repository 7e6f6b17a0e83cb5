/- What is written is read, and the other way round: in plain words. -/
import Derived.Test.YtpgpniemkmiljaaUtfO
namespace Go.Proofs.Ytpgpniemkmiljaa
open Go.ChangeShapes Go.WideShapes Go.ChangeAt Go.RowKit
set_option linter.unusedVariables false

theorem byteAt_mid (pre post : List UInt8) (ns : List Nat) (j : Nat) (hj : j < ns.length) (h : ns[j] < 256) : byteAt (pre ++ ns.map UInt8.ofNat ++ post) (pre.length + j) = ns[j] := by
  unfold byteAt
  rw [List.append_assoc, List.getElem?_append_right (by omega), Nat.add_sub_cancel_left, List.getElem?_append_left (by simpa using hj), List.getElem?_map, List.getElem?_eq_getElem hj]
  exact ofNat_toNat h
theorem chr_enc (pre post : List UInt8) (r : Nat) (h : isR (r : Int) = true) : chrAt (pre ++ encB r ++ post) pre.length = ((r : Int), encLen r) := by
  have hb := isR_true h
  have hlen : (pre ++ encB r ++ post).length = pre.length + encLen r + post.length := by simp [encB_len]; omega
  have raw : rawS (pre ++ encB r ++ post) pre.length = ((r : Int), encLen r) := by
    unfold encB at hlen ⊢
    have key := fun j hj hk => byteAt_mid pre post (encN r) j hj hk
    obtain ⟨l, hl⟩ : ∃ l, pre ++ (encN r).map UInt8.ofNat ++ post = l := ⟨_, rfl⟩
    rw [hl] at key hlen ⊢
    unfold encLen at hlen ⊢
    unfold encN at key
    by_cases c1 : r < 128
    · rw [if_pos c1] at hlen ⊢
      simp only [if_pos c1] at key
      have k0 := key 0 (by simp) (by simp; omega)
      simp only [Nat.add_zero, List.getElem_cons_zero] at k0
      rw [rawS_1 (by omega), k0]
    rw [if_neg c1] at hlen ⊢
    simp only [if_neg c1] at key
    by_cases c2 : r < 2048
    · rw [if_pos c2] at hlen ⊢
      simp only [if_pos c2] at key
      have k0 := key 0 (by simp) (by simp; omega)
      have k1 := key 1 (by simp) (by simp; omega)
      simp only [Nat.add_zero, List.getElem_cons_zero, List.getElem_cons_succ] at k0 k1
      rw [rawS_2 (by omega) (by omega) (restS_in l (pre.length + 1) (by omega) (by omega)) (by omega), k0, k1]
      congr 1; omega
    rw [if_neg c2] at hlen ⊢
    simp only [if_neg c2] at key
    by_cases c3 : r < 65536
    · rw [if_pos c3] at hlen ⊢
      simp only [if_pos c3] at key
      have k0 := key 0 (by simp) (by simp; omega)
      have k1 := key 1 (by simp) (by simp; omega)
      have k2 := key 2 (by simp) (by simp; omega)
      simp only [Nat.add_zero, List.getElem_cons_zero, List.getElem_cons_succ] at k0 k1 k2
      rw [rawS_3 (by omega) (by omega) (restS_in l (pre.length + 1) (by omega) (by omega)) (by omega) (restS_in l (pre.length + 2) (by omega) (by omega)) (by omega), k0, k1, k2]
      congr 1; omega
    · rw [if_neg c3] at hlen ⊢
      simp only [if_neg c3] at key
      have k0 := key 0 (by simp) (by simp; omega)
      have k1 := key 1 (by simp) (by simp; omega)
      have k2 := key 2 (by simp) (by simp; omega)
      have k3 := key 3 (by simp) (by simp; omega)
      simp only [Nat.add_zero, List.getElem_cons_zero, List.getElem_cons_succ] at k0 k1 k2 k3
      rw [rawS_4 (by omega) (by omega) (restS_in l (pre.length + 1) (by omega) (by omega)) (by omega) (restS_in l (pre.length + 2) (by omega) (by omega)) (by omega) (restS_in l (pre.length + 3) (by omega) (by omega)) (by omega), k0, k1, k2, k3]
      congr 1; omega
  have hpos : encLen r ≠ 0 := by unfold encLen; repeat (split <;> try omega)
  unfold chrAt
  rw [raw]
  simp only []
  rw [if_neg (by simp only [Int.toNat_natCast, h]; simp [hpos])]


theorem byte_of (l : List UInt8) (k : Nat) (h : k < l.length) : l[k] = UInt8.ofNat (byteAt l k) := by
  unfold byteAt
  rw [List.getElem?_eq_getElem h]
  simp
theorem restS_num {l : List UInt8} {k : Nat} (h : 0 ≤ restS l k) : k < l.length ∧ 128 ≤ byteAt l k ∧ byteAt l k ≤ 191 ∧ restS l k = (byteAt l k : Int) - 128 := by
  unfold restS at h ⊢
  split at h
  · next hc => rw [if_pos hc]; exact ⟨hc.1, hc.2.1, hc.2.2, rfl⟩
  · omega
theorem drop_one (l : List UInt8) (k : Nat) (h : k < l.length) : (l.drop k).take 1 = [l[k]] := by
  rw [List.drop_eq_getElem_cons h]; rfl
theorem drop_two (l : List UInt8) (k : Nat) (h : k + 1 < l.length) : (l.drop k).take 2 = [l[k], l[k + 1]] := by
  rw [List.drop_eq_getElem_cons (by omega), List.drop_eq_getElem_cons h]; rfl
theorem drop_three (l : List UInt8) (k : Nat) (h : k + 2 < l.length) : (l.drop k).take 3 = [l[k], l[k + 1], l[k + 2]] := by
  rw [List.drop_eq_getElem_cons (by omega), List.drop_eq_getElem_cons (by omega), List.drop_eq_getElem_cons h]; rfl
theorem drop_four (l : List UInt8) (k : Nat) (h : k + 3 < l.length) : (l.drop k).take 4 = [l[k], l[k + 1], l[k + 2], l[k + 3]] := by
  rw [List.drop_eq_getElem_cons (by omega), List.drop_eq_getElem_cons (by omega), List.drop_eq_getElem_cons (by omega), List.drop_eq_getElem_cons h]; rfl
set_option maxRecDepth 10000 in
theorem enc_chr (l : List UInt8) (k : Nat) (r : Int) (m : Nat) (hk : k < l.length) (h : chrAt l k = (r, m)) (h0 : m ≠ 0) : isR r = true ∧ encB r.toNat = (l.drop k).take m := by
  unfold chrAt at h
  simp only [] at h
  split at h
  · injection h with h1 h2; omega
  · next hc =>
    rw [h] at hc
    simp only [] at hc
    have hi : isR r = true := by
      cases hb : isR r with
      | true => rfl
      | false => exact absurd (.inr (.inl hb)) hc
    have he : encLen r.toNat = m := by
      by_cases e : encLen r.toNat = m
      · exact e
      · exact absurd (.inr (.inr e)) hc
    refine ⟨hi, ?_⟩
    have hb := isR_true hi
    unfold rawS at h
    simp only [] at h
    unfold encB encN
    unfold encLen at he
    split at h
    · injection h with h1 h2
      subst h2
      rw [if_pos (by omega), drop_one l k hk, byte_of l k hk, ← h1]; simp
    · split at h
      · next hx =>
        obtain ⟨x1, x2, x3⟩ := hx
        obtain ⟨y1, y2, y3, y4⟩ := restS_num x3
        injection h with h1 h2
        subst h2
        have e : ¬ r.toNat < 128 := by intro e; rw [if_pos e] at he; omega
        rw [if_neg e, if_pos (by omega), drop_two l k y1, byte_of l k hk, byte_of l (k + 1) y1]
        simp only [List.map_cons, List.map_nil, List.cons.injEq, and_true]
        exact ⟨congrArg UInt8.ofNat (by omega), congrArg UInt8.ofNat (by omega)⟩
      · split at h
        · next hx =>
          obtain ⟨x1, x2, x3, x4⟩ := hx
          obtain ⟨y1, y2, y3, y4⟩ := restS_num x3
          obtain ⟨z1, z2, z3, z4⟩ := restS_num x4
          injection h with h1 h2
          subst h2
          have e : ¬ r.toNat < 128 := by intro e; rw [if_pos e] at he; omega
          have e2 : ¬ r.toNat < 2048 := by intro e2; rw [if_neg e, if_pos e2] at he; omega
          rw [if_neg e, if_neg e2, if_pos (by omega), drop_three l k z1, byte_of l k hk, byte_of l (k + 1) y1, byte_of l (k + 2) z1]
          simp only [List.map_cons, List.map_nil, List.cons.injEq, and_true]
          exact ⟨congrArg UInt8.ofNat (by omega), congrArg UInt8.ofNat (by omega), congrArg UInt8.ofNat (by omega)⟩
        · split at h
          · next hx =>
            obtain ⟨x1, x2, x3, x4, x5⟩ := hx
            obtain ⟨y1, y2, y3, y4⟩ := restS_num x3
            obtain ⟨z1, z2, z3, z4⟩ := restS_num x4
            obtain ⟨u1, u2, u3, u4⟩ := restS_num x5
            injection h with h1 h2
            subst h2
            have e : ¬ r.toNat < 128 := by intro e; rw [if_pos e] at he; omega
            have e2 : ¬ r.toNat < 2048 := by intro e2; rw [if_neg e, if_pos e2] at he; omega
            have e3 : ¬ r.toNat < 65536 := by intro e3; rw [if_neg e, if_neg e2, if_pos e3] at he; omega
            rw [if_neg e, if_neg e2, if_neg e3, drop_four l k u1, byte_of l k hk, byte_of l (k + 1) y1, byte_of l (k + 2) z1, byte_of l (k + 3) u1]
            simp only [List.map_cons, List.map_nil, List.cons.injEq, and_true]
            exact ⟨congrArg UInt8.ofNat (by omega), congrArg UInt8.ofNat (by omega), congrArg UInt8.ofNat (by omega), congrArg UInt8.ofNat (by omega)⟩
          · injection h with h1 h2; omega
theorem items_text (l : List UInt8) (f k : Nat) (hf : l.length ≤ k + f) (hg : ∀ x ∈ items l f k, x.2.2 = 0) :
    textS ((items l f k).map fun x => x.1) = l.drop k ∧ okT ((items l f k).map fun x => x.1) = true := by
  induction f generalizing k with
  | zero =>
    rw [List.drop_eq_nil_of_le (by omega)]
    exact ⟨rfl, rfl⟩
  | succ f ih =>
    by_cases hk : k < l.length
    · by_cases hc : (chrAt l k).2 = 0
      · have := hg (0, k, 5) (by rw [items_bad l f k hk hc]; exact List.mem_singleton.2 rfl)
        exact absurd this (by simp)
      · rw [items_good l f k hk hc] at hg ⊢
        obtain ⟨r, m, hrm⟩ : ∃ r m, chrAt l k = (r, m) := ⟨(chrAt l k).1, (chrAt l k).2, (Prod.eta _).symm⟩
        rw [hrm] at hc hg ⊢
        simp only [] at hc hg ⊢
        obtain ⟨e1, e2⟩ := enc_chr l k r m hk hrm hc
        obtain ⟨i1, i2⟩ := ih (k + m) (by omega) (fun x hx => hg x (List.mem_cons_of_mem _ hx))
        refine ⟨?_, ?_⟩
        · unfold textS at i1 ⊢
          simp only [List.map_cons, List.flatten_cons]
          rw [i1, e2, ← List.drop_drop, List.take_append_drop]
        · unfold okT at i2 ⊢
          simp only [List.map_cons, List.all_cons, e1, i2, Bool.and_self]
    · rw [items_end l (f + 1) k (by omega), List.drop_eq_nil_of_le (by omega)]
      exact ⟨rfl, rfl⟩
theorem all_good {l : List UInt8} (h : badS l = none) : ∀ x ∈ stepsS l, x.2.2 = 0 := by
  unfold badS at h
  rw [Option.map_eq_none_iff, List.find?_eq_none] at h
  intro x hx
  simpa using h x hx
theorem text_back {l : List UInt8} (h : badS l = none) : textS (runesS l) = l ∧ okT (runesS l) = true := by
  have := items_text l l.length 0 (by omega) (all_good h)
  rwa [List.drop_zero] at this
theorem text_items (ns : List Int) (pre : List UInt8) (f : Nat) (hf : (textS ns).length ≤ f) (hok : okT ns = true) :
    (items (pre ++ textS ns) f pre.length).map (fun x => x.1) = ns ∧ ∀ x ∈ items (pre ++ textS ns) f pre.length, x.2.2 = 0 := by
  induction ns generalizing pre f with
  | nil =>
    rw [items_end _ _ _ (by simp [textS])]
    exact ⟨rfl, by simp⟩
  | cons r ns ih =>
    have hs : textS (r :: ns) = encB r.toNat ++ textS ns := by unfold textS; simp
    have hir : isR r = true ∧ okT ns = true := by unfold okT at hok ⊢; simpa using hok
    obtain ⟨hi, hok'⟩ := hir
    have hb := isR_true hi
    obtain ⟨q, rfl⟩ : ∃ q : Nat, r = q := ⟨r.toNat, by omega⟩
    rw [Int.toNat_natCast] at hs
    have hl := encB_len q
    have hle := encLen_le q
    rw [hs, List.length_append, hl] at hf
    obtain ⟨g, rfl⟩ : ∃ g, f = g + 1 := ⟨f - 1, by omega⟩
    have hc := chr_enc pre (textS ns) q hi
    rw [hs, ← List.append_assoc]
    have hk : pre.length < (pre ++ encB q ++ textS ns).length := by simp only [List.length_append, hl]; omega
    rw [items_good _ g _ hk (by rw [hc]; simp only []; omega), hc]
    simp only []
    obtain ⟨i1, i2⟩ := ih (pre ++ encB q) g (by omega) hok'
    rw [List.length_append, hl] at i1 i2
    refine ⟨?_, ?_⟩
    · rw [List.map_cons, i1]
    · intro x hx
      rcases List.mem_cons.1 hx with rfl | hx
      · rfl
      · exact i2 x hx
theorem runes_back {ns : List Int} (h : okT ns = true) : badS (textS ns) = none ∧ runesS (textS ns) = ns := by
  have := text_items ns [] (textS ns).length (Nat.le_refl _) h
  simp only [List.nil_append, List.length_nil] at this
  exact ⟨badS_none rfl this.2, this.1⟩
end Go.Proofs.Ytpgpniemkmiljaa
