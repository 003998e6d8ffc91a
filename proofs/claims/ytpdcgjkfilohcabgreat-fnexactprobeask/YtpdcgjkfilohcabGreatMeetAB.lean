import Derived.Test.YtpdcgjkfilohcabGreatDrawAC
namespace Go.Proofs.YtpdcgjkfilohcabGreat
open Go.RowKit
attribute [local go_sem ↓] Go.wp_at_zero Go.wp_at_succ

/-- A pair of boxes is held against the best so far: tick, I, J. -/
def meetStep (cs bs : List Bx) (i j : Nat) (st : Option (Int × Nat × Nat)) : Option (Int × Nat × Nat) :=
  let a := cs.getD i Bx.nil
  let b := bs.getD j Bx.nil
  if closeB a b = true then match st with
    | none => some (closeT a b, i, j)
    | some (t, i', j') => if closeT a b < t then some (closeT a b, i, j) else some (t, i', j')
  else st
def meetRow (cs bs : List Bx) (i : Nat) (st : Option (Int × Nat × Nat)) : Nat → Option (Int × Nat × Nat)
  | 0 => st
  | n + 1 => meetStep cs bs i n (meetRow cs bs i st n)
def meetAll (cs bs : List Bx) : Nat → Option (Int × Nat × Nat)
  | 0 => none
  | n + 1 => meetRow cs bs n (meetAll cs bs n) bs.length
/-- The five fields of a clash. -/
def clashV (s t : ByteArray) : Option (Int × Nat × Nat) → Array Value
  | none => #[.string ⟨#[]⟩, .string ⟨#[]⟩, .int .i64 0, .int .i64 0, .int .i64 0]
  | some (k, i, j) => #[.string s, .string t, .int .i64 k, .int .i64 i, .int .i64 j]


def Five (w : World) (p : Nat) (v0 v1 v2 v3 v4 : Value) : Prop :=
  w.cell? ⟨p, 0, none⟩ = some v0 ∧ w.cell? ⟨p, 1, none⟩ = some v1 ∧ w.cell? ⟨p, 2, none⟩ = some v2 ∧ w.cell? ⟨p, 3, none⟩ = some v3 ∧ w.cell? ⟨p, 4, none⟩ = some v4
def Free5 (w : World) (p : Nat) : Prop :=
  w.frozen? ⟨p, 0, none⟩ = false ∧ w.frozen? ⟨p, 1, none⟩ = false ∧ w.frozen? ⟨p, 2, none⟩ = false ∧ w.frozen? ⟨p, 3, none⟩ = false ∧ w.frozen? ⟨p, 4, none⟩ = false
/-- The variable 'best' of the specification's l3Meet. -/
def BestIs (w wr : World) (s t : ByteArray) : Option (Int × Nat × Nat) → Prop
  | none => Five wr (w.heap.size + 1 + 1 + 1) (.string ⟨#[]⟩) (.string ⟨#[]⟩) (.int .i64 0) (.int .i64 0) (.int .i64 0) ∧ Free5 wr (w.heap.size + 1 + 1 + 1) ∧ w.heap.size + 1 + 1 + 1 < wr.heap.size
  | some (k, i, j) => Five wr (w.heap.size + 1 + 1 + 1) (.string s) (.string t) (.int .i64 k) (.int .i64 i) (.int .i64 j) ∧ Free5 wr (w.heap.size + 1 + 1 + 1) ∧ w.heap.size + 1 + 1 + 1 < wr.heap.size
theorem five_gr {w wr : World} {p : Nat} {v0 v1 v2 v3 v4 : Value} (h : Five w p v0 v1 v2 v3 v4) (gr : Gr w wr) (hp : p < w.heap.size) : Five wr p v0 v1 v2 v3 v4 := by
  obtain ⟨hc, _⟩ := gr.cells
  unfold Five at *
  simp only [hc p _ hp]
  exact h
theorem free5_gr {w wr : World} {p : Nat} (h : Free5 w p) (gr : Gr w wr) (hp : p < w.heap.size) : Free5 wr p := by
  obtain ⟨_, hf⟩ := gr.cells
  unfold Free5 at *
  simp only [hf p _ hp]
  exact h
theorem best_gr {w wr w' : World} {s t : ByteArray} {st : Option (Int × Nat × Nat)} (h : BestIs w wr s t st) (gr : Gr wr w') : BestIs w w' s t st := by
  rcases st with _ | ⟨k, i, j⟩
  · exact ⟨five_gr h.1 gr h.2.2, free5_gr h.2.1 gr h.2.2, Nat.lt_of_lt_of_le h.2.2 gr.size⟩
  · exact ⟨five_gr h.1 gr h.2.2, free5_gr h.2.1 gr h.2.2, Nat.lt_of_lt_of_le h.2.2 gr.size⟩
def put5 (w : World) (p : Nat) (v0 v1 v2 v3 v4 : Value) : World :=
  ((((w.setCell ⟨p, 0, none⟩ v0).setCell ⟨p, 1, none⟩ v1).setCell ⟨p, 2, none⟩ v2).setCell ⟨p, 3, none⟩ v3).setCell ⟨p, 4, none⟩ v4
theorem five_put {w : World} {p : Nat} {u0 u1 u2 u3 u4 : Value} (h : Five w p u0 u1 u2 u3 u4) (v0 v1 v2 v3 v4 : Value) : Five (put5 w p v0 v1 v2 v3 v4) p v0 v1 v2 v3 v4 := by
  obtain ⟨h0, h1, h2, h3, h4⟩ := h
  refine ⟨?_, ?_, ?_, ?_, ?_⟩ <;> unfold put5
  · refine (cell_off _ _ _ _ _ _ (by omega)).trans ?_
    refine (cell_off _ _ _ _ _ _ (by omega)).trans ?_
    refine (cell_off _ _ _ _ _ _ (by omega)).trans ?_
    refine (cell_off _ _ _ _ _ _ (by omega)).trans ?_
    exact World.cell?_setCell_same _ _ _ h0
  · refine (cell_off _ _ _ _ _ _ (by omega)).trans ?_
    refine (cell_off _ _ _ _ _ _ (by omega)).trans ?_
    refine (cell_off _ _ _ _ _ _ (by omega)).trans ?_
    refine World.cell?_setCell_same _ _ _ (u := u1) ?_
    exact (cell_off _ _ _ _ _ _ (by omega)).trans h1
  · refine (cell_off _ _ _ _ _ _ (by omega)).trans ?_
    refine (cell_off _ _ _ _ _ _ (by omega)).trans ?_
    refine World.cell?_setCell_same _ _ _ (u := u2) ?_
    refine (cell_off _ _ _ _ _ _ (by omega)).trans ?_
    exact (cell_off _ _ _ _ _ _ (by omega)).trans h2
  · refine (cell_off _ _ _ _ _ _ (by omega)).trans ?_
    refine World.cell?_setCell_same _ _ _ (u := u3) ?_
    refine (cell_off _ _ _ _ _ _ (by omega)).trans ?_
    refine (cell_off _ _ _ _ _ _ (by omega)).trans ?_
    exact (cell_off _ _ _ _ _ _ (by omega)).trans h3
  · refine World.cell?_setCell_same _ _ _ (u := u4) ?_
    refine (cell_off _ _ _ _ _ _ (by omega)).trans ?_
    refine (cell_off _ _ _ _ _ _ (by omega)).trans ?_
    refine (cell_off _ _ _ _ _ _ (by omega)).trans ?_
    exact (cell_off _ _ _ _ _ _ (by omega)).trans h4
theorem free5_put {w : World} {p : Nat} (h : Free5 w p) (q : Nat) (v0 v1 v2 v3 v4 : Value) : Free5 (put5 w q v0 v1 v2 v3 v4) p := by
  unfold Free5 at *
  simpa [put5] using h
theorem put5_size (w : World) (p : Nat) (v0 v1 v2 v3 v4 : Value) : (put5 w p v0 v1 v2 v3 v4).heap.size = w.heap.size := by simp [put5]
theorem put5_gr {a w : World} (h : Gr a w) {p : Nat} (hp : a.heap.size ≤ p) (v0 v1 v2 v3 v4 : Value) : Gr a (put5 w p v0 v1 v2 v3 v4) :=
  ((((h.setCell (p := ⟨p, 0, none⟩) hp _).setCell (p := ⟨p, 1, none⟩) hp _).setCell (p := ⟨p, 2, none⟩) hp _).setCell (p := ⟨p, 3, none⟩) hp _).setCell (p := ⟨p, 4, none⟩) hp _
theorem five_new {w wr : World} {u0 u1 u2 u3 u4 : Value} {T : TypeId} (g : Gr (w.alloc (.cells #[u0, u1, u2, u3, u4] T)) wr) : Five wr w.heap.size u0 u1 u2 u3 u4 ∧ Free5 wr w.heap.size ∧ w.heap.size < wr.heap.size := by
  refine ⟨⟨?_, ?_, ?_, ?_, ?_⟩, ⟨?_, ?_, ?_, ?_, ?_⟩, by have := g.size; simp at this; omega⟩
  all_goals first | exact (g.cells.1 _ _ (by simp)).trans (by simp) | exact (g.cells.2 _ _ (by simp)).trans (by simp)
theorem step_far {cs bs : List Bx} {i j : Nat} {st : Option (Int × Nat × Nat)} (h : closeB (cs.getD i Bx.nil) (bs.getD j Bx.nil) = false) : meetStep cs bs i j st = st := by simp only [meetStep, h]; rfl
theorem step_first {cs bs : List Bx} {i j : Nat} (h : closeB (cs.getD i Bx.nil) (bs.getD j Bx.nil) = true) : meetStep cs bs i j none = some (closeT (cs.getD i Bx.nil) (bs.getD j Bx.nil), i, j) := by simp only [meetStep, h]; rfl
theorem step_less {cs bs : List Bx} {i j : Nat} {T : Int} {i' j' : Nat} (h : closeB (cs.getD i Bx.nil) (bs.getD j Bx.nil) = true) (hl : closeT (cs.getD i Bx.nil) (bs.getD j Bx.nil) < T) : meetStep cs bs i j (some (T, i', j')) = some (closeT (cs.getD i Bx.nil) (bs.getD j Bx.nil), i, j) := by simp only [meetStep, h, if_pos hl]; rfl
theorem step_more {cs bs : List Bx} {i j : Nat} {T : Int} {i' j' : Nat} (h : closeB (cs.getD i Bx.nil) (bs.getD j Bx.nil) = true) (hl : ¬ closeT (cs.getD i Bx.nil) (bs.getD j Bx.nil) < T) : meetStep cs bs i j (some (T, i', j')) = some (T, i', j') := by simp only [meetStep, h, if_neg hl]; rfl


set_option maxRecDepth 100000 in
set_option maxHeartbeats 4000000 in
theorem specL3Meet_any (s t : ByteArray) (a a' : Option Addr) (cap cap' : Nat) (cs bs : List Bx) (w : World) (ha : Boxes w a cs) (hb : Boxes w a' bs) (hn : cs.length ≤ 40) (hm : bs.length ≤ 40) (oka : ∀ k, k < cs.length → (cs.getD k Bx.nil).ok = true) (okb : ∀ k, k < bs.length → (bs.getD k Bx.nil).ok = true) :
    Calls Tryz.prog 35 #[.agg #[.string s, .slice a cs.length cap], .agg #[.string t, .slice a' bs.length cap']] w fun e w' => e = .returned (.tuple #[.agg (clashV s t (meetAll cs bs cs.length)), .bool (meetAll cs bs cs.length).isSome]) ∧ Gr w w' := by
  have GB : Gr w (((w.alloc (.cells #[.string s, .slice a cs.length cap] 40)).alloc (.cells #[.string t, .slice a' bs.length cap'] 40)).alloc (.cells #[.string ⟨#[]⟩, .string ⟨#[]⟩, .int .i64 0, .int .i64 0, .int .i64 0] 61)) := (((Gr.refl _).alloc _).alloc _).alloc _
  have GT : Gr ((w.alloc (.cells #[.string s, .slice a cs.length cap] 40)).alloc (.cells #[.string t, .slice a' bs.length cap'] 40)) (((w.alloc (.cells #[.string s, .slice a cs.length cap] 40)).alloc (.cells #[.string t, .slice a' bs.length cap'] 40)).alloc (.cells #[.string ⟨#[]⟩, .string ⟨#[]⟩, .int .i64 0, .int .i64 0, .int .i64 0] 61)) := (Gr.refl _).alloc _
  have GA : Gr (((w.alloc (.cells #[.string s, .slice a cs.length cap] 40)).alloc (.cells #[.string t, .slice a' bs.length cap'] 40)).alloc (.cells #[.string ⟨#[]⟩, .string ⟨#[]⟩, .int .i64 0, .int .i64 0, .int .i64 0] 61)) ((((w.alloc (.cells #[.string s, .slice a cs.length cap] 40)).alloc (.cells #[.string t, .slice a' bs.length cap'] 40)).alloc (.cells #[.string ⟨#[]⟩, .string ⟨#[]⟩, .int .i64 0, .int .i64 0, .int .i64 0] 61)).alloc (.cells #[.string ⟨#[]⟩, .string ⟨#[]⟩, .int .i64 0, .int .i64 0, .int .i64 0] 61)) := (Gr.refl _).alloc _
  have eB : (((w.alloc (.cells #[.string s, .slice a cs.length cap] 40)).alloc (.cells #[.string t, .slice a' bs.length cap'] 40)).alloc (.cells #[.string ⟨#[]⟩, .string ⟨#[]⟩, .int .i64 0, .int .i64 0, .int .i64 0] 61)).heap.size = w.heap.size + 1 + 1 + 1 := by simp
  have HB0 : Hid (BestIs w ((((w.alloc (.cells #[.string s, .slice a cs.length cap] 40)).alloc (.cells #[.string t, .slice a' bs.length cap'] 40)).alloc (.cells #[.string ⟨#[]⟩, .string ⟨#[]⟩, .int .i64 0, .int .i64 0, .int .i64 0] 61)).alloc (.cells #[.string ⟨#[]⟩, .string ⟨#[]⟩, .int .i64 0, .int .i64 0, .int .i64 0] 61)) s t none) := by
    show BestIs _ _ _ _ none
    have := five_new (Gr.refl ((((w.alloc (.cells #[.string s, .slice a cs.length cap] 40)).alloc (.cells #[.string t, .slice a' bs.length cap'] 40)).alloc (.cells #[.string ⟨#[]⟩, .string ⟨#[]⟩, .int .i64 0, .int .i64 0, .int .i64 0] 61)).alloc (.cells #[.string ⟨#[]⟩, .string ⟨#[]⟩, .int .i64 0, .int .i64 0, .int .i64 0] 61)))
    rw [eB] at this
    exact this
  go_enter Tryz.func35, Tryz.ntmps35
  go_wp2
  go_loopw [7, 8] (fun f i wr => ∃ k : Nat, k ≤ cs.length ∧ i = .int .i64 k ∧ f = .bool (meetAll cs bs k).isSome ∧ Hid (BestIs w wr s t (meetAll cs bs k)) ∧ Gr (((w.alloc (.cells #[.string s, .slice a cs.length cap] 40)).alloc (.cells #[.string t, .slice a' bs.length cap'] 40)).alloc (.cells #[.string ⟨#[]⟩, .string ⟨#[]⟩, .int .i64 0, .int .i64 0, .int .i64 0] 61)) wr) (fun _ i _ => cs.length - (intOf i).toNat)
  case atStart => exact ⟨0, Nat.zero_le _, rfl, rfl, HB0, GA⟩
  case round =>
    obtain ⟨k, hk, rfl, rfl, HB, gr⟩ := hrel
    obtain ⟨hl, e0, e1, e2, e3⟩ := two_pairs (GT.trans gr)
    clear HB0 GA
    by_cases hkl : k < cs.length
    · obtain ⟨g, o, rfl, hg, hx⟩ := ha k hkl
      have hoa := oka k hkl
      have hi0 : (0 : Int) ≤ (k : Int) := by omega
      have hi1 : (k : Int) < (cs.length : Int) := by omega
      obtain ⟨st, hst⟩ : ∃ st, st = meetAll cs bs k := ⟨_, rfl⟩
      have HM : Hid (meetAll cs bs (k + 1) = meetRow cs bs k st bs.length) := by show meetAll cs bs (k + 1) = _; rw [hst]; rfl
      rw [← hst] at HB ⊢
      clear hst
      go_wp2_with fail
      go_loopw [7, 9] (fun f i wq => ∃ j : Nat, j ≤ bs.length ∧ i = .int .i64 j ∧ f = .bool (meetRow cs bs k st j).isSome ∧ Hid (BestIs w wq s t (meetRow cs bs k st j)) ∧ Gr (((w.alloc (.cells #[.string s, .slice (some ⟨g, o, none⟩) cs.length cap] 40)).alloc (.cells #[.string t, .slice a' bs.length cap'] 40)).alloc (.cells #[.string ⟨#[]⟩, .string ⟨#[]⟩, .int .i64 0, .int .i64 0, .int .i64 0] 61)) wq) (fun _ i _ => bs.length - (intOf i).toNat)
      case atStart => exact ⟨0, Nat.zero_le _, rfl, rfl, HB, gr⟩
      case round =>
        clear HB gr e0 e1 e2 e3
        obtain ⟨j, hj, rfl, rfl, HB, gq⟩ := hrel
        obtain ⟨hl', q0, q1, q2, q3⟩ := two_pairs (GT.trans gq)
        by_cases hjl : j < bs.length
        · obtain ⟨g', o', rfl, hg', hx'⟩ := hb j hjl
          have hob := okb j hjl
          have hj0 : (0 : Int) ≤ (j : Int) := by omega
          have hj1 : (j : Int) < (bs.length : Int) := by omega
          have H0 : Hid (closeB (cs.getD k Bx.nil) (bs.getD j Bx.nil) = false → ∀ st, meetStep cs bs k j st = st) := fun h st => step_far h
          have H1 : Hid (closeB (cs.getD k Bx.nil) (bs.getD j Bx.nil) = true → meetStep cs bs k j none = some (closeT (cs.getD k Bx.nil) (bs.getD j Bx.nil), k, j)) := fun h => step_first h
          have H2 : Hid (∀ T i' j', closeB (cs.getD k Bx.nil) (bs.getD j Bx.nil) = true → closeT (cs.getD k Bx.nil) (bs.getD j Bx.nil) < T → meetStep cs bs k j (some (T, i', j')) = some (closeT (cs.getD k Bx.nil) (bs.getD j Bx.nil), k, j)) := fun T i' j' h h' => step_less h h'
          have H3 : Hid (∀ T i' j', closeB (cs.getD k Bx.nil) (bs.getD j Bx.nil) = true → ¬ closeT (cs.getD k Bx.nil) (bs.getD j Bx.nil) < T → meetStep cs bs k j (some (T, i', j')) = some (T, i', j')) := fun T i' j' h h' => step_more h h'
          have HR : Hid (meetRow cs bs k st (j + 1) = meetStep cs bs k j (meetRow cs bs k st j)) := rfl
          generalize meetRow cs bs k st j = st' at *
          generalize bs.getD j Bx.nil = b at *
          generalize cs.getD k Bx.nil = c at *
          have y := six_gr hx (GB.trans gq) hg
          have y' := six_gr hx' (GB.trans gq) hg'
          have hsz := (GB.trans gq).size
          have HY : Hid (Six wr g (o + k * 6) c ∧ Six wr g' (o' + j * 6) b ∧ (wr.cell? ⟨w.heap.size, 0, none⟩ = some (.string s) ∧ wr.cell? ⟨w.heap.size, 1, none⟩ = some (.slice (some ⟨g, o, none⟩) cs.length cap) ∧ wr.cell? ⟨w.heap.size + 1, 0, none⟩ = some (.string t) ∧ wr.cell? ⟨w.heap.size + 1, 1, none⟩ = some (.slice (some ⟨g', o', none⟩) bs.length cap'))) := ⟨y, y', q0, q1, q2, q3⟩
          have HG : Hid (Gr _ wr) := gq
          clear y y' hx hx' gq
          go_wp2_with fail
          clear q0 q1 q2 q3
          go_region_held3 (fun w' => Gr wr w' ∧ (w'.cell? ⟨g, o + k * 6, none⟩ = some (.int .i64 c.x) ∧ w'.cell? ⟨g, o + k * 6 + 1, none⟩ = some (.int .i64 c.y) ∧ w'.cell? ⟨g, o + k * 6 + 2, none⟩ = some (.int .i64 c.l) ∧ w'.cell? ⟨g, o + k * 6 + 3, none⟩ = some (.int .i64 c.h) ∧ w'.cell? ⟨g, o + k * 6 + 4, none⟩ = some (.int .i64 c.i) ∧ w'.cell? ⟨g, o + k * 6 + 5, none⟩ = some (.int .i64 c.o)) ∧ (w'.cell? ⟨g', o' + j * 6, none⟩ = some (.int .i64 b.x) ∧ w'.cell? ⟨g', o' + j * 6 + 1, none⟩ = some (.int .i64 b.y) ∧ w'.cell? ⟨g', o' + j * 6 + 2, none⟩ = some (.int .i64 b.l) ∧ w'.cell? ⟨g', o' + j * 6 + 3, none⟩ = some (.int .i64 b.h) ∧ w'.cell? ⟨g', o' + j * 6 + 4, none⟩ = some (.int .i64 b.i) ∧ w'.cell? ⟨g', o' + j * 6 + 5, none⟩ = some (.int .i64 b.o)) ∧ (w'.cell? ⟨w.heap.size, 0, none⟩ = some (.string s) ∧ w'.cell? ⟨w.heap.size, 1, none⟩ = some (.slice (some ⟨g, o, none⟩) cs.length cap) ∧ w'.cell? ⟨w.heap.size + 1, 0, none⟩ = some (.string t) ∧ w'.cell? ⟨w.heap.size + 1, 1, none⟩ = some (.slice (some ⟨g', o', none⟩) bs.length cap')))
            (first | exact keepS HY.out (by omega) (by omega) hl' (Gr.refl _) (Gr.refl _).drew | exact keepS HY.out (by omega) (by omega) hl' (Gr.refl _) ((Gr.refl _).drew.trans g3))
            (first
              | (go_at_call 63; refine (specL1Close_any c b _ hoa hob).mono ?_; rintro e w3 ⟨rfl, g3⟩))
          have G3 := HG.out.trans ((Gr.refl _).drew.trans g3)
          obtain ⟨-, q0, q1, q2, q3⟩ := two_pairs (GT.trans G3)
          have HB' := best_gr HB.out ((Gr.refl _).drew.trans g3)
          have HB3 : Hid (BestIs w w3 s t st') := HB'
          have HG3 : Hid (Gr _ w3) := G3
          clear HB HB' HG HY G3 g3
          cases hcb : closeB c b
          · have HE : Hid (meetRow cs bs k st (j + 1) = st') := HR.out.trans (H0.out hcb st')
            clear H0 H1 H2 H3 HR
            go_wp2
            go_roundw
            case rel => exact ⟨j + 1, by omega, by go_num, by rw [HE.out], by rw [HE.out]; exact HB3, HG3.out⟩
            case measure => simp [intOf]; omega
          · rcases st' with _ | ⟨T, i', j'⟩
            · have HE : Hid (meetRow cs bs k st (j + 1) = some (closeT c b, k, j)) := HR.out.trans (H1.out hcb)
              clear H0 H1 H2 H3 HR
              obtain ⟨⟨b0, b1, b2, b3, b4⟩, ⟨f0, f1, f2, f3, f4⟩, hp⟩ := HB3.out
              go_wp2
              go_roundw
              case rel => exact ⟨j + 1, by omega, by go_num, by rw [HE.out]; rfl, by rw [HE.out]; exact ⟨five_put HB3.out.1 _ _ _ _ _, free5_put HB3.out.2.1 _ _ _ _ _ _, by have := put5_size w3 (w.heap.size + 1 + 1 + 1) (.string s) (.string t) (.int .i64 (closeT c b)) (.int .i64 k) (.int .i64 j); unfold put5 at this; omega⟩, put5_gr HG3.out (by rw [eB]; exact Nat.le_refl _) _ _ _ _ _⟩
              case measure => simp [intOf]; omega
            · by_cases hlt : closeT c b < T
              · have HE : Hid (meetRow cs bs k st (j + 1) = some (closeT c b, k, j)) := HR.out.trans (H2.out T i' j' hcb hlt)
                clear H0 H1 H2 H3 HR
                obtain ⟨⟨b0, b1, b2, b3, b4⟩, ⟨f0, f1, f2, f3, f4⟩, hp⟩ := HB3.out
                go_wp2
                go_roundw
                case rel => exact ⟨j + 1, by omega, by go_num, by rw [HE.out]; rfl, by rw [HE.out]; exact ⟨five_put HB3.out.1 _ _ _ _ _, free5_put HB3.out.2.1 _ _ _ _ _ _, by have := put5_size w3 (w.heap.size + 1 + 1 + 1) (.string s) (.string t) (.int .i64 (closeT c b)) (.int .i64 k) (.int .i64 j); unfold put5 at this; omega⟩, put5_gr HG3.out (by rw [eB]; exact Nat.le_refl _) _ _ _ _ _⟩
                case measure => simp [intOf]; omega
              · have HE : Hid (meetRow cs bs k st (j + 1) = some (T, i', j')) := HR.out.trans (H3.out T i' j' hcb (Int.not_lt.mp hlt))
                clear H0 H1 H2 H3 HR
                obtain ⟨⟨b0, b1, b2, b3, b4⟩, ⟨f0, f1, f2, f3, f4⟩, hp⟩ := HB3.out
                go_wp2
                go_roundw
                case rel => exact ⟨j + 1, by omega, by go_num, by rw [HE.out], by rw [HE.out]; exact HB3, HG3.out⟩
                case measure => simp [intOf]; omega
        · have ej : j = bs.length := by omega
          rw [ej] at HB
          have ej' : (meetRow cs bs k st j).isSome = (meetAll cs bs (k + 1)).isSome := by rw [HM.out, ej]
          have HB2 : Hid (BestIs w wr s t (meetAll cs bs (k + 1))) := by show BestIs _ _ _ _ _; rw [HM.out]; exact HB.out
          have HE : Hid ((meetRow cs bs k st j).isSome = (meetAll cs bs (k + 1)).isSome) := ej'
          clear HB ej ej'
          go_wp2
          go_roundw
          case rel => exact ⟨k + 1, by omega, by go_num, by rw [HE.out], HB2, gq⟩
          case measure => simp [intOf]; omega
    · have ek : k = cs.length := by omega
      subst ek
      obtain ⟨hc, hf⟩ := gr.cells
      have GR : Gr ((w.alloc (.cells #[.string s, .slice a cs.length cap] 40)).alloc (.cells #[.string t, .slice a' bs.length cap'] 40)) wr := GT.trans gr
      have HR := five_new gr
      have eR : ((w.alloc (.cells #[.string s, .slice a cs.length cap] 40)).alloc (.cells #[.string t, .slice a' bs.length cap'] 40)).heap.size = w.heap.size + 1 + 1 := by simp
      rw [eR] at HR
      have HR' : Hid (Five wr (w.heap.size + 1 + 1) (.string ⟨#[]⟩) (.string ⟨#[]⟩) (.int .i64 0) (.int .i64 0) (.int .i64 0)) := HR.1
      obtain ⟨⟨r0, r1, r2, r3, r4⟩, ⟨p0, p1, p2, p3, p4⟩, -⟩ := HR
      clear hc hf
      have hS := HB.out
      obtain ⟨st, hst⟩ : ∃ st, meetAll cs bs cs.length = st := ⟨_, rfl⟩
      rw [hst] at hS ⊢
      have HS : Hid (meetAll cs bs cs.length = st) := hst
      clear hst HB
      rcases st with _ | ⟨T, i', j'⟩
      · obtain ⟨⟨b0, b1, b2, b3, b4⟩, -, hp⟩ := hS
        go_wp2
        have HV := five_put HR'.out (.string ⟨#[]⟩) (.string ⟨#[]⟩) (.int .i64 0) (.int .i64 0) (.int .i64 0)
        obtain ⟨v0, v1, v2, v3, v4⟩ := HV
        unfold put5 at v0 v1 v2 v3 v4
        refine bodyPost_ret (v := .tuple #[.agg #[.string ⟨#[]⟩, .string ⟨#[]⟩, .int .i64 0, .int .i64 0, .int .i64 0], .bool false]) (by simp [results, Tryz.results35, go_sem, v0, v1, v2, v3, v4]) rfl ⟨by rw [HS.out]; rfl, ?_⟩
        exact put5_gr ((((Gr.refl _).alloc _).alloc _).trans GR) (by omega) _ _ _ _ _
      · obtain ⟨⟨b0, b1, b2, b3, b4⟩, -, hp⟩ := hS
        go_wp2
        have HV := five_put HR'.out (.string s) (.string t) (.int .i64 T) (.int .i64 i') (.int .i64 j')
        obtain ⟨v0, v1, v2, v3, v4⟩ := HV
        unfold put5 at v0 v1 v2 v3 v4
        refine bodyPost_ret (v := .tuple #[.agg #[.string s, .string t, .int .i64 T, .int .i64 i', .int .i64 j'], .bool true]) (by simp [results, Tryz.results35, go_sem, v0, v1, v2, v3, v4]) rfl ⟨by rw [HS.out]; rfl, ?_⟩
        exact put5_gr ((((Gr.refl _).alloc _).alloc _).trans GR) (by omega) _ _ _ _ _
end Go.Proofs.YtpdcgjkfilohcabGreat

namespace Go.Proofs.YtpdcgjkfilohcabGreat
open Go.RowKit
attribute [local go_sem ↓] Go.wp_at_zero Go.wp_at_succ

/-- ProbeMeet of two tubes: tick, I, J. -/
def meetO (s : ByteArray) (cs : List Bx) (t : ByteArray) (bs : List Bx) : Option (Int × Nat × Nat) := if tubeB s cs = true ∧ tubeB t bs = true then meetAll cs bs cs.length else none

theorem tube_boxes {s : ByteArray} {bs : List Bx} (h : tubeB s bs = true) : bs.length ≤ 40 ∧ ∀ k, k < bs.length → (bs.getD k Bx.nil).ok = true := by
  rw [tubeB_eq] at h
  have hc : countB bs = true := by revert h; cases countB bs <;> simp
  have hb : boxesB bs = true := by revert h; cases boxesB bs <;> simp
  refine ⟨by simpa [countB] using hc, fun k hk => ?_⟩
  rw [List.getD_eq_getElem?_getD, List.getElem?_eq_getElem hk]
  exact (List.all_eq_true.mp hb) _ (List.getElem_mem hk)

end Go.Proofs.YtpdcgjkfilohcabGreat
