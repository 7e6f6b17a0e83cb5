/- Stacks: what cannot be made; the function that Find is handed; the walk of StackPlays. -/
import Derived.Test.YtoiplpmjocemfaaStkG
import Derived.Deep.LoopGhost
import Derived.Deep.DeepCutAuto
import Derived.Deep.CutBlock
namespace Go.Proofs.Ytoiplpmjocemfaa
open Go.ChangeShapes Go.WideShapes Go.ChangeAt Go.RowKit
set_option linter.unusedVariables false

set_option maxHeartbeats 400000 in
theorem stkNew_bad (room : Int) (w : World) (h : room < 0 ∨ 1099511627776 < room) :
    Calls Try.prog 13 #[.int .i64 room] w fun e w' => e = .returned (.tuple #[.pointer none, .int .i64 2]) ∧ w = w' := by
  rcases h with h | h
  all_goals
    go_enter Try.func13, Try.ntmps13
    go_wp2
    go_ret2
    exact ⟨rfl, rfl⟩
set_option maxHeartbeats 400000 in
theorem room_u (w : World) (p : Nat) (room : Int) (xs : List Int) (h : Stk w p room xs) :
    Calls Try.prog 15 #[.pointer (some ⟨p, 0, none⟩)] w fun e w' => e = .returned (.int .i64 room) ∧ w = w' := by
  obtain ⟨A, c, h⟩ := h
  obtain ⟨c0, c1, c2⟩ := cell_of_two h.blk
  go_enter Try.func15, Try.ntmps15
  go_wp2
  go_ret
  exact ⟨rfl, rfl⟩

/-- Calls of a stack, as their cells. -/
def aV (l : List (Int × Int)) : List Value := l.flatMap fun x => [.int .i64 x.1, .int .i64 x.2]
theorem aV_len (l : List (Int × Int)) : (aV l).length = l.length * 2 := by
  unfold aV
  induction l with
  | nil => rfl
  | cons x l ih => rw [List.flatMap_cons, List.length_append, ih, List.length_cons]; simp; omega
theorem aV_get : ∀ (l : List (Int × Int)) (k : Nat) (x : Int × Int), l[k]? = some x → (aV l)[k * 2]? = some (.int .i64 x.1) ∧ (aV l)[k * 2 + 1]? = some (.int .i64 x.2)
  | [], k, x, h => by simp at h
  | y :: l, 0, x, h => by
    obtain rfl : y = x := by simpa using h
    exact ⟨rfl, rfl⟩
  | y :: l, k + 1, x, h => by
    have ih := aV_get l k x (by simpa using h)
    have e : aV (y :: l) = [.int .i64 y.1, .int .i64 y.2] ++ aV l := rfl
    rw [e, show (k + 1) * 2 = k * 2 + 2 by omega]
    exact ⟨ih.1, ih.2⟩
theorem fld1 (a : Addr) (j : Nat) : a.add (j + 1) = ⟨(a.add j).block, (a.add j).off + 1, none⟩ := by
  rw [← addr_add_add a j 1]
  generalize a.add j = b
  unfold Addr.add
  simp
theorem Sees.act {w : World} {A : Option Addr} {l : List (Int × Int)} (h : Sees w A (aV l)) {k : Nat} {x : Int × Int} (hk : l[k]? = some x) :
    ∃ ad, A = some ad ∧ w.cell? (ad.add (k * 2)) = some (.int .i64 x.1) ∧ w.cell? ⟨(ad.add (k * 2)).block, (ad.add (k * 2)).off + 1, none⟩ = some (.int .i64 x.2) := by
  obtain ⟨h1, h2⟩ := aV_get l k x hk
  obtain ⟨ad, e, hc⟩ := h (by intro h0; rw [h0] at h1; simp at h1)
  exact ⟨ad, e, hc _ _ h1, fld1 ad _ ▸ hc _ _ h2⟩

set_option maxHeartbeats 400000 in
theorem plays1_any (y X : Int) (bl bi k len cap : Nat) (ad : Addr) (w : World) (hk : k < len) (h1 : w.cell? ⟨bl, 0, none⟩ = some (.slice (some ad) len cap)) (h2 : w.cell? ⟨bi, 0, none⟩ = some (.int .i64 k)) (h3 : w.cell? ⟨(ad.add (k * 2)).block, (ad.add (k * 2)).off + 1, none⟩ = some (.int .i64 X)) :
    Calls Try.prog 24 #[.int .i64 y, .pointer (some ⟨bl, 0, none⟩), .pointer (some ⟨bi, 0, none⟩)] w fun e w' => e = .returned (.bool (decide (y = X))) ∧ w = w' := by
  have i0 : (0 : Int) ≤ (k : Int) := by omega
  have i1 : (k : Int) < (len : Int) := by omega
  by_cases hy : y = X
  · rw [decide_eq_true hy]
    have t : (y == X) = true := by simpa using hy
    clear hy
    go_enter Try.func24, Try.ntmps24
    go_wp2_with fail
    go_ret
    exact ⟨rfl, rfl⟩
  · rw [decide_eq_false hy]
    have t : (y == X) = false := by simpa using hy
    clear hy
    go_enter Try.func24, Try.ntmps24
    go_wp2_with fail
    go_ret
    exact ⟨rfl, rfl⟩

/-- Where a row of the document's lies: beside the stack and its things. -/
def Beside (w : World) (B A : Option Addr) (p : Nat) : Prop := ∀ b, B = some b → b.block < w.heap.size ∧ b.block ≠ p ∧ ∀ a, A = some a → b.block ≠ a.block
theorem Sees.off {w w' : World} {p : Nat} {A B : Option Addr} {us : List Value} (h : Sees w B us) (ho : Off w w' p A) (hb : Beside w B A p) : Sees w' B us := by
  intro hne
  obtain ⟨b, rfl, hc⟩ := h hne
  obtain ⟨h1, h2, h3⟩ := hb b rfl
  refine ⟨b, rfl, fun j u hu => ?_⟩
  rw [← hc j u hu]
  refine World.cell?_of_block ?_
  rw [addr_add_block]
  exact ho.2 _ h1 h2 (fun a e => h3 a e)
theorem cell_off1 {w w' : World} {p b : Nat} {A : Option Addr} {u : Value} (h : w.cell? ⟨b, 0, none⟩ = some u) (ho : Off w w' p A) (hb : Beside w (some ⟨b, 0, none⟩) A p) : w'.cell? ⟨b, 0, none⟩ = some u := by
  obtain ⟨h1, h2, h3⟩ := hb _ rfl
  rw [← h]
  exact World.cell?_of_block (ho.2 _ h1 h2 (fun a e => h3 a e))
theorem frozen_off1 {w w' : World} {p b : Nat} {A : Option Addr} (h : w.frozen? ⟨b, 0, none⟩ = false) (ho : Off w w' p A) (hb : Beside w (some ⟨b, 0, none⟩) A p) : w'.frozen? ⟨b, 0, none⟩ = false := by
  obtain ⟨h1, h2, h3⟩ := hb _ rfl
  rw [← h]
  exact World.frozen?_of_block (ho.2 _ h1 h2 (fun a e => h3 a e))
theorem Beside.next {w w' : World} {p : Nat} {A A' B : Option Addr} (h : Beside w B A p) (ho : Off w w' p A) (hn : Near w A A') : Beside w' B A' p := by
  intro b e
  obtain ⟨h1, h2, h3⟩ := h b e
  refine ⟨by have := ho.1; omega, h2, fun a ha => ?_⟩
  rcases hn with rfl | ⟨a', e', h4⟩
  · exact h3 a ha
  · obtain rfl : a' = a := Option.some.inj (e'.symm.trans ha)
    omega
theorem Beside.below {w w' : World} {p : Nat} {A B : Option Addr} (h : Beside w B A p) (hb : Below w.heap.size w w') : Beside w' B A p := fun b e => ⟨by have := hb.size; have := (h b e).1; omega, (h b e).2⟩
theorem beside_new {w w' : World} {p : Nat} {room : Int} {A : Option Addr} {n c : Nat} {xs : List Int} (h : StkAt w p room A n c xs) {b : Addr} (h1 : w.heap.size ≤ b.block) (h2 : b.block < w'.heap.size) : Beside w' (some b) A p := by
  intro b' e
  obtain rfl : b = b' := Option.some.inj e
  have hp := h.lt
  refine ⟨h2, by omega, fun a ha => ?_⟩
  subst ha
  have := h.own.lt a.block rfl
  omega
/-- At the loop's head: the stack and the document's row are the same. -/
structure Play (l : List (Int × Int)) (room : Int) (p : Nat) (W1 : World) (k m : Nat) (v7 v8 : Value) (xs : List Int) (A AX : Option Addr) (n c cX Ib : Nat) (wr : World) : Prop where
  x : v7 = .slice AX n cX
  i : v8 = .pointer (some ⟨Ib, 0, none⟩)
  box : wr.cell? ⟨Ib, 0, none⟩ = some (.int .i64 k)
  free : wr.frozen? ⟨Ib, 0, none⟩ = false
  len : xs.length = n
  nk : n ≤ m
  kl : k ≤ l.length
  ncX : n ≤ cX
  mX : cX ≤ 9223372036854775807
  nil : AX = none → cX = 0
  stk : StkAt wr p room A n c xs
  sees : Sees wr AX (vK xs)
  bX : Beside wr AX A p
  bI : Beside wr (some ⟨Ib, 0, none⟩) A p
  low : W1.heap.size ≤ Ib
  below : Below p W1 wr

def PlayRel (l : List (Int × Int)) (room : Int) (p : Nat) (W1 : World) (g : Nat) (v7 v8 : Value) (wr : World) : Prop :=
  ∃ (k : Nat) (xs : List Int) (A AX : Option Addr) (n c cX Ib : Nat), k + g = l.length ∧ Play l room p W1 k k v7 v8 xs A AX n c cX Ib wr
def MidRel (l : List (Int × Int)) (room : Int) (p : Nat) (W1 : World) (k Ib : Nat) (v7 : Value) (wr : World) : Prop :=
  ∃ (xs : List Int) (A AX : Option Addr) (n c cX : Nat), Play l room p W1 k (k + 1) v7 (.pointer (some ⟨Ib, 0, none⟩)) xs A AX n c cX Ib wr

theorem mid_of {l : List (Int × Int)} {room : Int} {p k : Nat} {W1 wr w3 w4 : World} {v7 v8 : Value} {xs ys : List Int} {A AX AY A4 : Option Addr} {n c cX Ib c4 cY m : Nat} (h : Play l room p W1 k k v7 v8 xs A AX n c cX Ib wr)
    (hb3 : Below wr.heap.size wr w3) (hm : ys.length = m) (hst : StkAt w4 p room A4 m c4 ys) (hoff : Off w3 w4 p A) (hnear : Near w3 A A4) (hb4 : Below p w3 w4)
    (hor : (AY = AX ∧ cY = cX) ∨ ∃ a, AY = some a ∧ wr.heap.size ≤ a.block ∧ a.block < w3.heap.size) (hs : Sees w3 AY (vK ys)) (hle : m ≤ cY) (hc : cY ≤ 9223372036854775807) (hmk : m ≤ k + 1) :
    MidRel l room p W1 k Ib (.slice AY m cY) w4 := by
  have hpl := h.stk.lt
  have hbx : Beside w3 AY A p := by
    rcases hor with ⟨rfl, rfl⟩ | ⟨a, rfl, h1, h2⟩
    · exact h.bX.below hb3
    · exact beside_new h.stk h1 h2
  have hbi := h.bI.below hb3
  refine ⟨ys, A4, AY, m, c4, cY, rfl, rfl, cell_off1 (cell_later hb3 h.box) hoff hbi, frozen_off1 ((hb3.frozen (h.bI _ rfl).1).trans h.free) hoff hbi, hm, hmk, h.kl, hle, hc, fun e => ?_, hst, hs.off hoff hbx, hbx.next hoff hnear, hbi.next hoff hnear, h.low, h.below.trans ((hb3.mono (Nat.le_of_lt hpl)).trans hb4)⟩
  rcases hor with ⟨rfl, rfl⟩ | ⟨a, rfl, _, _⟩
  · exact h.nil e
  · cases e
theorem next_of {l : List (Int × Int)} {room : Int} {p k : Nat} {W1 wc w7 : World} {v7 v8 : Value} {ys : List Int} {A AY : Option Addr} {n c cY Ib : Nat} (h : Play l room p W1 k (k + 1) v7 v8 ys A AY n c cY Ib wc)
    (hb : Below wc.heap.size wc w7) (hk : k < l.length) :
    Play l room p W1 (k + 1) (k + 1) v7 (.pointer (some ⟨w7.heap.size, 0, none⟩)) ys A AY n c cY w7.heap.size (w7.alloc (.cells #[.int .i64 ((k : Int) + 1)] 3)) := by
  have hb2 := hb.alloc hb.size (.cells #[.int .i64 ((k : Int) + 1)] 3)
  have hpl := h.stk.lt
  have hw1 := h.below.size
  refine ⟨h.x, rfl, by simp [World.cell?_alloc_new], by simp, h.len, h.nk, by omega, h.ncX, h.mX, h.nil, h.stk.below hb2, h.sees.below hb2, h.bX.below hb2, ?_, by have := hb.size; omega, h.below.trans (hb2.mono (Nat.le_of_lt hpl))⟩
  exact beside_new h.stk hb.size (by simp)
theorem pushL_len (room : Int) (xs : List Int) (x : Int) : (pushL room xs x).length ≤ xs.length + 1 := by
  unfold pushL; split
  · simp
  · omega
theorem below_set {w w' : World} {B b : Nat} (h : Below B w w') (hb : B ≤ b) (v : Value) : Below B w (w'.setCell ⟨b, 0, none⟩ v) := h.setCell (p := ⟨b, 0, none⟩) hb v

set_option maxRecDepth 100000 in
set_option maxHeartbeats 8000000 in
theorem stackPlays_any (l : List (Int × Int)) (AL : Option Addr) (len cap : Nat) (room : Int) (w : World) (hlen : l.length = len) (hlc : len ≤ cap) (hcap : cap ≤ 9223372036854775807) (hroom : I64 room) (hs : Sees w AL (aV l)) :
    Calls Try.prog 3 #[.int .i64 room, .slice AL len cap] w fun e w' => e = .returned (.bool true) ∧ Below w.heap.size w w' := by
  have hr1 := hroom.1
  have hr2 := hroom.2
  have hb0 : Below w.heap.size w (w.alloc (.cells #[.slice AL len cap] 22)) := (Below.refl _ w).alloc (Nat.le_refl _) _
  by_cases hl : 200 < len
  · clear hs
    go_enter Try.func3, Try.ntmps3
    go_wp2_with (go_at_call 12; refine (live12_any _).mono ?_; rintro e w3 ⟨rfl, hb3⟩)
    go_ret
    exact ⟨rfl, hb0.trans (hb3.mono (by simp))⟩
  by_cases hbad : room < 0 ∨ 1099511627776 < room
  · have HI := Lib.hid (fun w => ris12_any room w)
    clear hs
    go_enter Try.func3, Try.ntmps3
    go_wp2_with (first
      | (go_at_call 13; refine (stkNew_bad room _ hbad).mono ?_; rintro e w' ⟨rfl, rfl⟩)
      | (go_at_call 14; refine (HI.out _).mono ?_; rw [decide_eq_false (by omega)]; rintro e w' ⟨rfl, rfl⟩)
      | (go_at_call 12; refine (live12_any _).mono ?_; rintro e w3 ⟨rfl, hb3⟩))
    go_ret
    exact ⟨rfl, hb0.trans (hb3.mono (by simp))⟩
  have HI := Lib.hid (fun w => ris12_any room w)
  obtain ⟨W1, hW1⟩ : ∃ W1, w.alloc (.cells #[.slice AL len cap] 22) = W1 := ⟨_, rfl⟩
  have hbl : W1.cell? ⟨w.heap.size, 0, none⟩ = some (.slice AL len cap) := by rw [← hW1]; simp [World.cell?_alloc_new]
  rw [hW1] at hb0
  have HS := Lib.hid (hs.below hb0)
  have HL := Lib.hid hlen
  have HW1 := Lib.hid hW1
  have HBL := Lib.hid hbl
  have hp1 : w.heap.size < W1.heap.size := by rw [← hW1]; simp
  clear hs hlen hbl hW1
  go_enter Try.func3, Try.ntmps3
  go_wp2_with fail
  rw [HW1.out]
  refine (stkNew_any room _ (by omega) (by omega)).mono ?_
  rintro e w2 ⟨rfl, hs2, hb2⟩
  obtain ⟨p, hp⟩ : ∃ p, W1.heap.size = p := ⟨_, rfl⟩
  have HP := Lib.hid hp
  rw [hp] at hs2 hb2 hp1 ⊢
  have H2 := Lib.hid hs2
  clear hs2 hp
  go_wp2_with (first
      | (go_at_call 14; refine (HI.out _).mono ?_; rw [decide_eq_true (by omega)]; rintro e w' ⟨rfl, rfl⟩)
      | (go_at_call 15; refine (room_u _ p room _ H2.out).mono ?_; rintro e w' ⟨rfl, rfl⟩))
  have HB2 := Lib.hid hb2
  have hsz2 := H2.out.lt
  clear hb2
  go_loopg [7, 8] len (fun g v7 v8 wx => PlayRel l room p W1 g v7 v8 wx)
  case atStart =>
    obtain ⟨A, c, h⟩ := H2.out
    have hb3 := (HB2.out.alloc (by omega) (.cells #[.int .i64 0] 3))
    refine ⟨0, [], A, none, 0, c, 0, w2.heap.size, by rw [HL.out]; omega, rfl, rfl, by simp [World.cell?_alloc_new], by simp, rfl, Nat.le_refl _, by omega, Nat.le_refl _, by omega, fun _ => rfl, h.below ((Below.refl _ _).alloc (Nat.le_refl _) _), sees_nil _ _, fun b e => (by cases e), ?_, ?_, hb3⟩
    · exact beside_new h (Nat.le_refl _) (by simp)
    · have := HP.out; omega
  case round =>
    obtain ⟨k, xs, A, AX, n, c, cX, Ib, hkg, HPL⟩ := hrel
    have HPL := Lib.hid HPL
    obtain ⟨rfl, rfl, hbox, hfree, hxl, hnk, hkl, hncX, hmX, hnil, hstk, hsees, hbX, hbI, hlow, hbelow⟩ := HPL.out
    have HBL2 := (hbelow.cell (p := ⟨w.heap.size, 0, none⟩) hp1).trans HBL.out
    by_cases hlt : k < len
    · obtain ⟨g, rfl⟩ : ∃ g, gk = g + 1 := ⟨gk - 1, by rw [HL.out] at hkg; omega⟩
      obtain ⟨x, hx⟩ : ∃ x, l[k]? = some x := ⟨_, List.getElem?_eq_getElem (by rw [HL.out]; exact hlt)⟩
      obtain ⟨d, X⟩ := x
      obtain ⟨ad, rfl, hd, hX⟩ := (HS.out.below (hbelow.mono (Nat.le_of_eq HP.out))).act hx
      have i0 : (0 : Int) ≤ (k : Int) := by omega
      have i1 : (k : Int) < (len : Int) := by omega
      have ACT : ∀ W, Below p W1 W → W.cell? ⟨w.heap.size, 0, none⟩ = some (.slice (some ad) len cap) ∧ W.cell? ⟨(ad.add (k * 2)).block, (ad.add (k * 2)).off + 1, none⟩ = some (.int .i64 X) := fun W hW => by
        obtain ⟨ad', e, _, h⟩ := (HS.out.below (hW.mono (Nat.le_of_eq HP.out))).act hx
        obtain rfl : ad = ad' := Option.some.inj e
        exact ⟨(hW.cell (p := ⟨w.heap.size, 0, none⟩) hp1).trans HBL.out, h⟩
      have HACT := Lib.hid ACT
      have HX := Lib.hid hx
      have HXL := Lib.hid hxl
      have HSTK := Lib.hid hstk
      have HSX := Lib.hid hsees
      have HNIL := Lib.hid hnil
      have HB := Lib.hid hbelow
      have HBOX := Lib.hid hbox
      have hpl := hstk.lt
      have hn9 : n < 1099511627775 := by omega
      clear hx hxl hstk hsees hbX hbI ACT hnil
      go_upto_block 2 with (fail)
      go_cut [7] (fun v7 wx => MidRel l room p W1 k Ib v7 wx)
      case first =>
        by_cases h0 : d = 0
        · subst h0
          go_wp2_with fail
          refine (rpush_u wr AX n cX room X xs HXL.out hncX (by omega) hmX HNIL.out HSX.out).mono ?_
          rintro e w3 ⟨AX3, cX3, hor, rfl, hs3, hle3, hm3, hb3⟩
          have hp3 := push_g w3 p room X A n c xs (HSTK.out.below hb3) (by omega)
          have hpn := pushL_len room xs X
          rw [HXL.out] at hpn
          obtain ⟨xs3, hxs3⟩ : ∃ xs3, pushL room xs X = xs3 := ⟨_, rfl⟩
          obtain ⟨pe, hpe⟩ : ∃ pe, pushE room xs = pe := ⟨_, rfl⟩
          obtain ⟨n3, hn3⟩ : ∃ n3, xs3.length = n3 := ⟨_, rfl⟩
          rw [hxs3] at hs3 hle3 hp3 hpn ⊢
          rw [hpe] at hp3 ⊢
          rw [hn3] at hle3 hpn ⊢
          have hB3 := hbelow.trans (hb3.mono (Nat.le_of_lt hpl))
          obtain ⟨b3, X3⟩ := HACT.out w3 hB3
          have hbox3 := cell_later hb3 hbox
          have HB3 := Lib.hid hb3
          have HOR := Lib.hid hor
          have HS3 := Lib.hid hs3
          have HN3 := Lib.hid hn3
          have HP3 := Lib.hid hp3
          clear hor hs3 hn3 hp3 hxs3 hpe hb3 hB3 hbox hd hX HBL2 hfree
          go_wp2_with fail
          refine HP3.out.mono ?_
          rintro e w4 ⟨rfl, A4, c4, hst4, hoff, hnear, hb4⟩
          rw [HN3.out] at hst4
          have FIN := Lib.hid (mid_of HPL.out HB3.out HN3.out hst4 hoff hnear hb4 HOR.out HS3.out hle3 hm3 (by omega))
          clear hst4 hoff hnear hb4 b3 X3 hbox3
          go_wp2_with fail
          go_meet
          exact FIN.out
        · by_cases h1 : d = 1
          · subst h1
            go_wp2_with fail
            refine (rpop_u wr AX n cX xs HXL.out hncX (by omega) hmX HSX.out).mono ?_
            rintro e w3 ⟨rfl, hb3⟩
            have hp3 := pop_g w3 p room A n c xs (HSTK.out.below hb3) (by omega)
            have hs3 : Sees w3 AX (vK xs.dropLast) := by
              have := (HSX.out.below hb3).take xs.dropLast.length
              unfold vK at this ⊢
              rw [← List.map_take, List.length_dropLast, ← List.dropLast_eq_take] at this
              exact this
            have hpn : xs.dropLast.length ≤ n := by rw [List.length_dropLast, HXL.out]; omega
            obtain ⟨xs3, hxs3⟩ : ∃ xs3, xs.dropLast = xs3 := ⟨_, rfl⟩
            obtain ⟨tv, htv⟩ : ∃ tv, topV xs = tv := ⟨_, rfl⟩
            obtain ⟨hv, hhv⟩ : ∃ hv, hasV xs = hv := ⟨_, rfl⟩
            obtain ⟨n3, hn3⟩ : ∃ n3, xs3.length = n3 := ⟨_, rfl⟩
            rw [hxs3] at hs3 hp3 hpn ⊢
            rw [htv, hhv] at hp3 ⊢
            rw [hn3] at hpn ⊢
            have HB3 := Lib.hid hb3
            have HS3 := Lib.hid hs3
            have HN3 := Lib.hid hn3
            have HP3 := Lib.hid hp3
            clear hs3 hn3 hp3 hxs3 htv hhv hb3 hbox hd hX HBL2 hfree
            go_wp2_with fail
            refine HP3.out.mono ?_
            rintro e w4 ⟨rfl, A4, c4, hst4, hoff, hnear, hb4⟩
            rw [HN3.out] at hst4
            have FIN := Lib.hid (mid_of HPL.out HB3.out HN3.out hst4 hoff hnear hb4 (.inl ⟨rfl, rfl⟩) HS3.out (by omega) hmX (by omega))
            clear hst4 hoff hnear hb4
            go_wp2_with fail
            go_meet
            exact FIN.out
          · by_cases h2 : d = 2
            · subst h2
              go_wp2_with fail
              refine (rcut_u wr AX n cX X xs HXL.out hncX (by omega) hmX).mono ?_
              rintro e w3 ⟨rfl, rfl⟩
              have hp3 := cut_g wr p room X A n c xs HSTK.out (by omega)
              have hcn : cutN xs X ≤ n := by unfold cutN; rw [HXL.out]; omega
              obtain ⟨n3, hn3⟩ : ∃ n3, cutN xs X = n3 := ⟨_, rfl⟩
              rw [hn3] at hp3 hcn ⊢
              have hl3 : (xs.take n3).length = n3 := by rw [List.length_take, HXL.out]; omega
              have hs3 : Sees wr AX (vK (xs.take n3)) := by
                have := HSX.out.take n3
                unfold vK at this ⊢
                rw [← List.map_take] at this
                exact this
              have HS3 := Lib.hid hs3
              have HN3 := Lib.hid hl3
              have HP3 := Lib.hid hp3
              clear hs3 hn3 hp3 hl3
              go_wp2_with fail
              refine HP3.out.mono ?_
              rintro e w4 ⟨rfl, c4, hst4, hoff, hb4⟩
              rw [HN3.out] at hst4
              have FIN := Lib.hid (mid_of HPL.out (Below.refl _ _) HN3.out hst4 hoff (.inl rfl) hb4 (.inl ⟨rfl, rfl⟩) HS3.out (by omega) hmX (by omega))
              clear hst4 hoff hb4
              go_wp2_with fail
              go_meet
              exact FIN.out
            · have t0 : (d == 0) = false := by simpa using h0
              have t1 : (d == 1) = false := by simpa using h1
              have t2 : (d == 2) = false := by simpa using h2
              have FIN := Lib.hid (mid_of HPL.out (Below.refl _ _) HXL.out HSTK.out (off_of_below _ _ (Below.refl _ _)) (.inl rfl) (Below.refl _ _) (.inl ⟨rfl, rfl⟩) HSX.out hncX hmX (by omega))
              clear h0 h1 h2
              go_wp2_with fail
              go_meet
              exact FIN.out
      case rest =>
        obtain ⟨ys, A5, AY, m, c5, cY, HPM⟩ := hcut
        have HPM := Lib.hid HPM
        obtain ⟨rfl, _, ybox, yfree, yl, ymk, _, ymY, ymC, _, ystk, ysees, ybX, ybI, _, ybelow⟩ := HPM.out
        obtain ⟨ybl, yX⟩ := HACT.out wc ybelow
        have HYL := Lib.hid yl
        have HYS := Lib.hid ystk
        have HYX := Lib.hid ysees
        have ypl := ystk.lt
        have ybxlt := World.block_lt_of_cell? wc _ ybox
        simp only at ybxlt
        have hblk : w.heap.size < wc.heap.size := by omega
        obtain ⟨tv, htv⟩ : ∃ tv, topV ys = tv := ⟨_, rfl⟩
        obtain ⟨hv, hhv⟩ : ∃ hv, hasV ys = hv := ⟨_, rfl⟩
        obtain ⟨nd, hnd⟩ : ∃ nd, ys.dropLast.length = nd := ⟨_, rfl⟩
        have H1 := rpop_u wc AY m cY ys yl ymY (by omega) ymC ysees
        have H2' := fun (w' : World) (hb : Below wc.heap.size wc w') => top_u w' p room ys (ystk.below hb).stk (by omega)
        rw [htv, hhv] at H2'
        rw [htv, hhv, hnd] at H1
        have H4 := fun (w' : World) (hb : Below wc.heap.size wc w') => rfind_u w' AY m cY X ys yl (by omega) (ysees.below hb)
        have H5 := fun (w' : World) (hb : Below wc.heap.size wc w') => stkLen_any w' p room ys (ystk.below hb).stk
        rw [yl] at H5
        have H6 := fun (w' : World) (hb : Below wc.heap.size wc w') => all_u w' p room ys (ystk.below hb).stk (by omega)
        have H3 := fun (w' : World) (hb : Below wc.heap.size wc w') => find_u 24 #[.pointer (some ⟨w.heap.size, 0, none⟩), .pointer (some ⟨Ib, 0, none⟩)] w' p room X ys (ystk.below hb).stk (by omega) (fun _ => by kernel_rfl) (fun _ _ => by kernel_rfl)
          (fun y => plays1_any y X w.heap.size Ib k len cap ad w' hlt (cell_later hb ybl) (cell_later hb ybox) (cell_later hb yX))
        rw [yl] at H3
        obtain ⟨f1, f2, hf⟩ : ∃ f1 f2, findV ys X m = (f1, f2) := ⟨_, _, rfl⟩
        rw [hf] at H3 H4
        simp only at H3 H4
        have K1 := Lib.hid H1
        have K2 := Lib.hid H2'
        have K3 := Lib.hid H3
        have K4 := Lib.hid H4
        have K5 := Lib.hid H5
        have K6 := Lib.hid H6
        have K7 := Lib.hid (fun (w' : World) (A' : Option Addr) (c' : Nat) (h1 : Sees w' A' (vK ys)) (h2 : Sees w' AY (vK ys)) => numsEq_any A' AY m m c' cY ys ys w' yl yl (by omega) h1 h2)
        clear H1 H2' H3 H4 H5 H6 htv hhv hnd hf yl ystk ysees ybX ybI hbox hd hX HBL2
        go_wp2_with fail
        refine K1.out.mono ?_
        rintro e w3 ⟨rfl, hb3⟩
        go_wp2_with fail
        refine (K2.out w3 hb3).mono ?_
        rintro e w4 ⟨rfl, b4⟩
        have hb4 := hb3.trans (b4.mono hb3.size)
        have ybl4 := cell_later hb4 ybl
        have ybox4 := cell_later hb4 ybox
        have yX4 := cell_later hb4 yX
        go_wp2_with fail
        refine (K3.out w4 hb4).mono ?_
        rintro e w5 ⟨rfl, rfl⟩
        go_wp2_with fail
        refine (K4.out w4 hb4).mono ?_
        rintro e w5 ⟨rfl, rfl⟩
        go_wp2_with fail
        refine (K5.out w4 hb4).mono ?_
        rintro e w5 ⟨rfl, rfl⟩
        go_wp2_with fail
        refine (K6.out w4 hb4).mono ?_
        rintro e w6 ⟨A6, c6, rfl, hs6, hle6, hm6, b6⟩
        have hb6 := hb4.trans (b6.mono hb4.size)
        have HS6 := Lib.hid hs6
        rw [HYL.out]
        clear hs6 hle6 hm6
        go_wp2_with fail
        refine (K7.out w6 A6 c6 HS6.out (HYX.out.below hb6)).mono ?_
        rintro e w7 ⟨he, b7⟩
        simp only [decide_true] at he
        subst he
        have hb7 := hb6.trans (b7.mono hb6.size)
        have ybox7 := cell_later hb7 ybox
        clear ybl4 ybox4 yX4
        go_wp2_with fail
        have FIN := Lib.hid (next_of HPM.out hb7 (by rw [HL.out]; exact hlt))
        have HE := Lib.hid (show (k + 1) + g = l.length by omega)
        clear ybl ybox yfree yX ybox7 hb7 b7 hb6 b6 hb4 b4 hb3
        go_roundg g
        case measure => omega
        case rel => exact ⟨k + 1, ys, A5, AY, m, c5, cY, w7.heap.size, HE.out, FIN.out⟩
    · have hbs := hbelow.size
      clear hbX hbI hsees hstk
      go_wp2_with (go_at_call 12; refine (live12_any _).mono ?_; rintro e w3 ⟨rfl, hb3⟩)
      go_ret
      exact ⟨rfl, (hb0.trans (hbelow.mono (by have := HP.out; have := hb0.size; omega))).trans (hb3.mono (by have := hb0.size; omega))⟩
end Go.Proofs.Ytoiplpmjocemfaa
