/- The tables of package chars: what the cells hold; a run of numbers; the contracts of those who go through a table. -/
import Derived.Test.YtdmfladcldkmeaaDoorSees
import Derived.Laws.Rows
namespace Go.Proofs.YtdmfladcldkmeaaDoor
open Go.ChangeShapes Go.WideShapes Go.ChangeAt Go.RowKit
set_option linter.unusedVariables false

/-- The cells of a table of runs, and what it reads as. -/
def flatT (T : List (Int × Int)) : List Value := T.flatMap fun p => [.int .i64 p.1, .int .i64 p.2]
def dataT (T : List (Int × Int)) : DataW Unit := .agg (T.map fun p => .agg [.lit (.int .i64 p.1), .lit (.int .i64 p.2)])
def charT : List (Int × Int) := [(9, 10), (13, 13), (32, 55295), (57344, 65533), (65536, 1114111)]
def startT : List (Int × Int) := [(58, 58), (65, 90), (95, 95), (97, 122), (192, 214), (216, 246), (248, 767), (880, 893), (895, 8191), (8204, 8205), (8304, 8591), (11264, 12271), (12289, 55295), (63744, 64975), (65008, 65533), (65536, 983039)]
def followT : List (Int × Int) := [(45, 46), (48, 57), (183, 183), (768, 879), (8255, 8256)]
def pubidT : List (Int × Int) := [(10, 10), (13, 13), (32, 33), (35, 37), (39, 59), (61, 61), (63, 90), (95, 95), (97, 122)]
def hasT (T : List (Int × Int)) (r : Int) : Bool := T.any fun p => decide (p.1 ≤ r) && decide (r ≤ p.2)

theorem flat_of (T : List (Int × Int)) (L : List Value) (hl : L.length = 2 * T.length) (h : ∀ i (hi : i < T.length), (L.drop (i * 2)).take 2 = [.int .i64 T[i].1, .int .i64 T[i].2]) : L = flatT T := by
  induction T generalizing L with
  | nil => exact List.eq_nil_of_length_eq_zero (by simpa using hl)
  | cons p T ih =>
    have h0 := h 0 (by simp)
    simp only [Nat.zero_mul, List.drop_zero, List.getElem_cons_zero] at h0
    have ih' := ih (L.drop 2) (by rw [List.length_drop, hl, List.length_cons]; omega) (fun i hi => by
      have := h (i + 1) (by simp; omega)
      rw [List.drop_drop]
      rw [show 2 + i * 2 = (i + 1) * 2 by omega, this]
      simp)
    have := List.take_append_drop 2 L
    rw [h0, ih'] at this
    rw [← this]
    simp [flatT]
theorem cells_pairs {P : Program} {W : World} {base : Nat} {sp : Nat → Bool} {hd : Bool} {fuel : Nat} {t e : TypeId} {n : Nat} {f0 f1 : Field} {enc : TypeId × Value → Unit} {L : List Value} {T : List (Int × Int)} {q : List MemPlace} {ti : TypeId}
    (ht : P.underlying t = some (.array n e)) (he : P.underlying e = some (.struct #[f0, f1])) (h0 : f0.offset = 0) (h1 : f1.offset = 1) (t0 : f0.type = ti) (t1 : f1.type = ti) (hi : P.underlying ti = some (.int .i64))
    (ci : P.cellsOf ti = 1) (ce : P.cellsOf e = 2) (ct : P.cellsOf t = 2 * n) (hn : T.length = n)
    (h : DataW.trod enc P W base sp hd fuel t L = some (dataT T, q)) : L = flatT T := by
  obtain ⟨xs, m, rfl, hx, hl, hxn, hel⟩ := DataW.trod_array ht h
  rw [ct] at hl
  refine flat_of T L (by rw [hl, hn]) (fun i hi' => ?_)
  have hin : i < n := by omega
  have hxi := hel i hin
  rw [List.getElem?_eq_getElem (by omega), ce] at hxi
  obtain ⟨y0, y1, k, hy, hlen, hy0, hy1⟩ := trod_struct2 he hxi
  rw [h0, t0, ci, List.drop_zero] at hy0
  rw [h1, t1, ci] at hy1
  obtain ⟨a, ea, rfl, _⟩ := DataW.trod_int hi hy0
  obtain ⟨b, eb, rfl, _⟩ := DataW.trod_int hi hy1
  rw [ce] at hlen
  unfold dataT at hx
  simp only [Prod.mk.injEq, DataW.agg.injEq] at hx
  have hm := hx.1
  have hmi : (T.map fun p => (DataW.agg [.lit (.int .i64 p.1), .lit (.int .i64 p.2)] : DataW Unit))[i]? = (xs.map (·.1))[i]? := by rw [hm]
  rw [List.getElem?_map, List.getElem?_map, List.getElem?_eq_getElem hi', List.getElem?_eq_getElem (show i < xs.length by omega), hy] at hmi
  simp only [Option.map_some, Option.some.injEq, DataW.agg.injEq, List.cons.injEq, DataW.lit.injEq, Lit.int.injEq, true_and, and_true] at hmi
  obtain ⟨ha, hb⟩ := hmi
  obtain ⟨l, hl'⟩ : ∃ l, (L.drop (i * 2)).take 2 = l := ⟨_, rfl⟩
  rw [hl'] at ea eb hlen ⊢
  match l, hlen with
  | [x, y], _ =>
    simp at ea eb
    rw [ea, eb, ha, hb]

def TabAt (w : World) (g : Nat) (T : List (Int × Int)) : Prop := ∃ t fr, w.heap[g]? = some (.cells (flatT T).toArray t fr)
theorem TabAt.below {w w' : World} {g : Nat} {T : List (Int × Int)} (h : TabAt w g T) (hb : Below w.heap.size w w') : TabAt w' g T := by
  obtain ⟨t, fr, e⟩ := h
  exact ⟨t, fr, (hb.block g (Array.getElem?_eq_some_iff.1 e).1).trans e⟩
theorem tab_of_var {P : Program} {w : World} {name : String} {g : Nat} {T : List (Int × Int)} {cs : Array Value} (hg : P.globalNamed name = some g) (hv : w.var? P name = some cs) (hc : cs.toList = flatT T) : TabAt w g T := by
  unfold World.var? at hv
  rw [hg] at hv
  simp only [Option.bind_some] at hv
  split at hv
  · next cs' t fr e =>
    injection hv with hv
    subst hv
    refine ⟨t, fr, ?_⟩
    rw [e, ← hc]
  · cases hv
/-- The two tables of names lie as they were laid. -/
structure TabN (w : World) : Prop where
  start : TabAt w 2 startT
  follow : TabAt w 3 followT
theorem TabN.below {w w' : World} (h : TabN w) (hb : Below w.heap.size w w') : TabN w' where
  start := h.start.below hb
  follow := h.follow.below hb
/-- The tables of characters and of names lie as they were laid. -/
structure TabC (w : World) : Prop where
  char : TabAt w 1 charT
  start : TabAt w 2 startT
  follow : TabAt w 3 followT
theorem TabC.below {w w' : World} (h : TabC w) (hb : Below w.heap.size w w') : TabC w' where
  char := h.char.below hb
  start := h.start.below hb
  follow := h.follow.below hb
theorem TabC.toN {w : World} (h : TabC w) : TabN w where
  start := h.start
  follow := h.follow
/-- The tables lie as they were laid, that of public identifiers, too. -/
structure Tables (w : World) : Prop extends TabC w where
  pubid : TabAt w 0 pubidT
theorem Tables.below {w w' : World} (h : Tables w) (hb : Below w.heap.size w w') : Tables w' where
  toTabC := h.toTabC.below hb
  pubid := h.pubid.below hb
theorem Tables.toN {w : World} (h : Tables w) : TabN w := h.toTabC.toN

set_option maxHeartbeats 400000 in
theorem has_any (a b r : Int) (w : World) :
    Calls Tryd.prog 118 #[.agg #[.int .i64 a, .int .i64 b], .int .i64 r] w fun e w' => e = .returned (.bool (decide (a ≤ r) && decide (r ≤ b))) ∧ Below w.heap.size w w' := by
  by_cases h1 : a ≤ r
  · by_cases h2 : r ≤ b
    all_goals
      go_enter Tryd.func118, Tryd.ntmps118
      go_wp2
      go_ret
      exact ⟨ret_bool (by simp; omega), (Below.refl _ _).alloc (Nat.le_refl _) _⟩
  · go_enter Tryd.func118, Tryd.ntmps118
    go_wp2
    go_ret
    exact ⟨ret_bool (by simp; omega), (Below.refl _ _).alloc (Nat.le_refl _) _⟩
end Go.Proofs.YtdmfladcldkmeaaDoor
