import Derived.Test.YtpdcgjkfilohcabGreatSmallAD
namespace Go.Proofs.YtpdcgjkfilohcabGreat
open Go.RowKit
attribute [local go_sem ↓] Go.wp_at_zero Go.wp_at_succ

/-- A box from a tick on. -/
def cut1 (f : Int) (b : Bx) : Bx := ⟨b.x, b.y, b.l, b.h, if b.i < f then f else b.i, b.o⟩
def cutL (f : Int) (bs : List Bx) : List Bx := (bs.filter fun b => decide (f ≤ b.o)).map (cut1 f)
theorem cutL_le (f : Int) (bs : List Bx) : (cutL f bs).length ≤ bs.length := by
  unfold cutL; rw [List.length_map]; exact List.length_filter_le _ _
theorem cutL_keep (f : Int) (bs : List Bx) (k : Nat) (h : k < bs.length) (hb : f ≤ (bs.getD k Bx.nil).o) : cutL f (bs.take (k + 1)) = cutL f (bs.take k) ++ [cut1 f (bs.getD k Bx.nil)] := by
  have e : bs.getD k Bx.nil = bs[k] := by simp [h]
  rw [e] at hb ⊢
  unfold cutL
  rw [List.take_succ_eq_append_getElem h, List.filter_append, List.map_append]
  congr 1
  simp [hb]
theorem cutL_drop (f : Int) (bs : List Bx) (k : Nat) (h : k < bs.length) (hb : ¬ f ≤ (bs.getD k Bx.nil).o) : cutL f (bs.take (k + 1)) = cutL f (bs.take k) := by
  have e : bs.getD k Bx.nil = bs[k] := by simp [h]
  rw [e] at hb
  unfold cutL
  rw [List.take_succ_eq_append_getElem h, List.filter_append, List.map_append]
  simp [hb]
theorem cutL_all (f : Int) (bs : List Bx) (k : Nat) (h : ¬ k < bs.length) : cutL f (bs.take k) = cutL f bs := by
  rw [List.take_of_length_le (by omega)]

def Bx.vals (b : Bx) : List Value := [.int .i64 b.x, .int .i64 b.y, .int .i64 b.l, .int .i64 b.h, .int .i64 b.i, .int .i64 b.o]
def flat (bs : List Bx) : List Value := bs.flatMap Bx.vals
theorem flat_snoc (bs : List Bx) (b : Bx) : flat (bs ++ [b]) = flat bs ++ b.vals := by simp [flat]
theorem flat_get (bs : List Bx) (k c : Nat) (hk : k < bs.length) (hc : c < 6) : (flat bs)[k * 6 + c]? = (bs.getD k Bx.nil).vals[c]? := by
  induction bs generalizing k with
  | nil => simp at hk
  | cons b r ih =>
    cases k with
    | zero =>
      simp only [flat, List.flatMap_cons, Nat.zero_mul, Nat.zero_add]
      rw [List.getElem?_append_left (by simp [Bx.vals]; omega)]
      simp
    | succ k =>
      have := ih k (by simpa using hk)
      simp only [flat, List.flatMap_cons] at this ⊢
      rw [List.getElem?_append_right (by simp [Bx.vals]; omega)]
      have e : (k + 1) * 6 + c - b.vals.length = k * 6 + c := by simp [Bx.vals]; omega
      rw [e, this]
      simp

/-- What a row owns that holds boxes: where they lie, and that they may be written. -/
theorem owns_boxes {w : World} {base n : Nat} {v : Value} {bs : List Bx} (hn : n = bs.length) (h : w.ownsRow base 77 6 v n (flat bs)) :
    ∃ a cap, v = .slice a bs.length cap ∧ (∀ g o sp, a = some ⟨g, o, sp⟩ → o = 0 ∧ sp = none ∧ base ≤ g ∧ g < w.heap.size ∧ ∀ k, k < bs.length → Room w g (k * 6)) ∧ Boxes w a bs := by
  subst hn
  rcases h.2 with ⟨rfl, h0⟩ | ⟨g, cap, cur, rfl, hb, hg, h1, h2, h3, h4⟩
  · have e : bs = [] := List.length_eq_zero_iff.1 h0
    subst e
    exact ⟨none, 0, rfl, fun g o sp e => by simp at e, fun k hk => by simp at hk⟩
  · obtain ⟨hl, hb', hr⟩ := room_made h
    refine ⟨_, cap, rfl, fun g' o sp e => ?_, fun k hk => ⟨g, 0, rfl, hl, ?_⟩⟩
    · simp only [Option.some.injEq, Addr.mk.injEq] at e
      obtain ⟨rfl, rfl, rfl⟩ := e
      exact ⟨rfl, rfl, hb', hl, hr⟩
    · have cell : ∀ c, c < 6 → w.cell? ⟨g, k * 6 + c, none⟩ = (bs.getD k Bx.nil).vals[c]? := fun c hc => by
        rw [h.cellAt _ (by omega), flat_get bs k c hk hc]
      rw [Nat.zero_add]
      exact ⟨cell 0 (by omega), cell 1 (by omega), cell 2 (by omega), cell 3 (by omega), cell 4 (by omega), cell 5 (by omega)⟩

theorem owns_block {w : World} {base e size n : Nat} {v : Value} {xs : List Value} (h : w.ownsRow base e size v n xs) : ∀ k, v.ownBlock = some k → base ≤ k := by
  rcases h.2 with ⟨rfl, h0⟩ | ⟨g, cap, cur, rfl, hb, _⟩
  · intro k hk; simp [Value.ownBlock] at hk
  · intro k hk; simp [Value.ownBlock] at hk; omega

/-- A list of boxes of the call's own. -/
def OwnL (w w' : World) (v : Value) (bs : List Bx) : Prop :=
  ∃ a cap, v = .slice a bs.length cap ∧ (∀ g o sp, a = some ⟨g, o, sp⟩ → o = 0 ∧ sp = none ∧ w.heap.size ≤ g ∧ g < w'.heap.size ∧ ∀ k, k < bs.length → Room w' g (k * 6)) ∧ Boxes w' a bs

theorem news6 (W : World) (H : Nat) (hH : H = W.heap.size) (c : Bx) (t : TypeId) (j : Nat) (u : Value) (h : c.vals[j]? = some u) : (W.alloc (.cells #[.int .i64 c.x, .int .i64 c.y, .int .i64 c.l, .int .i64 c.h, .int .i64 c.i, .int .i64 c.o] t)).cell? ((⟨H, 0, none⟩ : Addr).add j) = some u := by
  subst hH
  have e : (⟨W.heap.size, 0, none⟩ : Addr).add j = ⟨W.heap.size, j, none⟩ := by unfold Addr.add; split <;> simp_all
  rw [e]
  have hj : j < 6 := by
    rcases Nat.lt_or_ge j 6 with q | q
    · exact q
    · rw [List.getElem?_eq_none (by simpa [Bx.vals] using q)] at h; simp at h
  rcases (by omega : j = 0 ∨ j = 1 ∨ j = 2 ∨ j = 3 ∨ j = 4 ∨ j = 5) with rfl | rfl | rfl | rfl | rfl | rfl <;> simp [Bx.vals] at h ⊢ <;> exact h
theorem vals_one (c : Bx) : ∀ u ∈ c.vals, u.oneCell' = true := by
  intro u hu
  simp [Bx.vals] at hu
  rcases hu with rfl | rfl | rfl | rfl | rfl | rfl <;> rfl
theorem own_same {w1 : World} {base : Nat} {v : Value} {L M : List Bx} (hM : M = L) (h : w1.ownsRow base 77 6 v L.length (flat L)) : w1.ownsRow base 77 6 v M.length (flat M) := by
  rw [hM]; exact h
theorem own_next {w w1 : World} {v' : Value} {L M : List Bx} {c : Bx} (hM : M = L ++ [c]) (h : w1.ownsRow w.heap.size 77 6 v' (L.length + 1) (flat L ++ c.vals)) : w1.ownsRow w.heap.size 77 6 v' M.length (flat M) := by
  subst hM
  rw [flat_snoc, List.length_append]
  exact h

end Go.Proofs.YtpdcgjkfilohcabGreat

namespace Go.Proofs.YtpdcgjkfilohcabGreat
open Go.RowKit
attribute [local go_sem ↓] Go.wp_at_zero Go.wp_at_succ

def cutS (s : ByteArray) (bs : List Bx) : ByteArray := if tubeB s bs then s else ⟨#[]⟩
def cutT (f : Int) (s : ByteArray) (bs : List Bx) : List Bx := if tubeB s bs then cutL f bs else []

theorem ownL_set {w w' : World} {v : Value} {bs : List Bx} (h : OwnL w w' v bs) (p : Addr) (u : Value) (hp : p.block < w.heap.size) : OwnL w (w'.setCell p u) v bs := by
  obtain ⟨a, cap, hv, hr, hb⟩ := h
  refine ⟨a, cap, hv, fun g o sp e => ?_, fun k hk => ?_⟩
  · obtain ⟨h0, h1, h2, h3, h4⟩ := hr g o sp e
    exact ⟨h0, h1, h2, by rw [World.size_setCell]; exact h3, fun k hk => room_set (h4 k hk) p u (by omega)⟩
  · obtain ⟨g, o, e, hg, hx⟩ := hb k hk
    obtain ⟨h0, h1, h2, h3, h4⟩ := hr g o none e
    exact ⟨g, o, e, by rw [World.size_setCell]; exact hg, six_set hx p u (by omega)⟩
theorem ownL_old {w0 w w' : World} {v : Value} {bs : List Bx} (h : OwnL w w' v bs) (hs : w0.heap.size ≤ w.heap.size) : OwnL w0 w' v bs := by
  obtain ⟨a, cap, hv, hr, hb⟩ := h
  refine ⟨a, cap, hv, fun g o sp e => ?_, hb⟩
  obtain ⟨h0, h1, h2, h3, h4⟩ := hr g o sp e
  exact ⟨h0, h1, by omega, h3, h4⟩
theorem ownL_nil (w w' : World) : OwnL w w' (.slice none 0 0) [] := ⟨none, 0, rfl, fun g o sp e => by simp at e, fun k hk => by simp at hk⟩

end Go.Proofs.YtpdcgjkfilohcabGreat

namespace Go.Proofs.YtpdcgjkfilohcabGreat
open Go.RowKit
attribute [local go_sem ↓] Go.wp_at_zero Go.wp_at_succ

/-- The variable 'out' of the specification's ProbeCut, and what it owns. -/
def OutIs (w wr : World) (s : ByteArray) (v : Value) (L : List Bx) : Prop :=
  wr.cell? ⟨w.heap.size + 1 + 1, 0, none⟩ = some (.string s) ∧ wr.cell? ⟨w.heap.size + 1 + 1, 1, none⟩ = some v ∧ wr.frozen? ⟨w.heap.size + 1 + 1, 1, none⟩ = false ∧ w.heap.size + 1 + 1 < wr.heap.size ∧ wr.ownsRow (w.heap.size + 1 + 1 + 1) 77 6 v L.length (flat L)

theorem out_alloc {w wr : World} {s : ByteArray} {v : Value} {L : List Bx} (h : OutIs w wr s v L) (o : Obj) (hl : w.heap.size + 1 + 1 < wr.heap.size) : OutIs w (wr.alloc o) s v L := by
  obtain ⟨h0, h1, h2, h3, h4⟩ := h
  exact ⟨(World.cell?_alloc_lt _ _ _ hl).trans h0, (World.cell?_alloc_lt _ _ _ hl).trans h1, (((Gr.refl wr).alloc o).cells.2 _ _ hl).trans h2, by simp; omega, h4.alloc o⟩

theorem owns_form {w : World} {base e size n : Nat} {v : Value} {xs : List Value} (h : w.ownsRow base e size v n xs) : ∃ a c, v = .slice a n c := by
  rcases h.2 with ⟨rfl, h0⟩ | ⟨g, cap, cur, rfl, _⟩
  · subst h0; exact ⟨_, _, rfl⟩
  · exact ⟨_, _, rfl⟩
theorem new_free {w w1 : World} {u v : Value} {t : TypeId} (g : Gr (w.alloc (.cells #[u, v] t)) w1) : w1.frozen? ⟨w.heap.size, 1, none⟩ = false := (g.cells.2 _ _ (by simp)).trans (by simp)

theorem out_next {w W w1 : World} {s : ByteArray} {v v' : Value} {L M : List Bx} {c : Bx} (h : OutIs w W s v L) (hM : M = L ++ [c]) (hown : w1.ownsRow (w.heap.size + 1 + 1 + 1) 77 6 v' (L.length + 1) (flat L ++ c.vals)) (hb : Below (w.heap.size + 1 + 1 + 1) W w1) :
    OutIs w (w1.setCell ⟨w.heap.size + 1 + 1, 1, none⟩ v') s v' M := by
  obtain ⟨h0, h1, h2, h3, h4⟩ := h
  have e1 : w1.cell? ⟨w.heap.size + 1 + 1, 1, none⟩ = some v := (hb.cell (p := ⟨w.heap.size + 1 + 1, 1, none⟩) (by simp)).trans h1
  refine ⟨?_, World.cell?_setCell_same _ _ _ e1, ?_, ?_, ?_⟩
  · rw [cell_off _ _ _ _ _ _ (by simp)]
    exact (hb.cell (p := ⟨w.heap.size + 1 + 1, 0, none⟩) (by simp)).trans h0
  · rw [World.frozen?_setCell]
    exact (hb.frozen (p := ⟨w.heap.size + 1 + 1, 1, none⟩) (by simp)).trans h2
  · rw [World.size_setCell]
    exact Nat.lt_of_lt_of_le h3 hb.size
  · subst hM
    rw [flat_snoc, List.length_append]
    exact ownsRow_setCell_below hown (by simp) _

end Go.Proofs.YtpdcgjkfilohcabGreat
