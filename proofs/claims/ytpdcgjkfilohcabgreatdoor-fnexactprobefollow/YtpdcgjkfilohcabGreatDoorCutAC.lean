import Derived.Test.YtpdcgjkfilohcabGreatDoorSmallB
import Derived.Test.YtpdcgjkfilohcabGreatDoorSmallD
namespace Go.Proofs.YtpdcgjkfilohcabGreatDoor
open Go.RowKit
attribute [local go_sem ↓] Go.wp_at_zero Go.wp_at_succ

/-- A box from a tick on. -/
def cut1 (f : Int) (b : Bx) : Bx := ⟨b.x, b.y, b.l, b.h, if b.i < f then f else b.i, b.o⟩
def cutL (f : Int) (bs : List Bx) : List Bx := (bs.filter fun b => decide (f ≤ b.o)).map (cut1 f)
theorem cutL_le (f : Int) (bs : List Bx) : (cutL f bs).length ≤ bs.length := by
  unfold cutL; rw [List.length_map]; exact List.length_filter_le _ _
theorem cutL_keep (f : Int) (bs : List Bx) (k : Nat) (h : k < bs.length) (hb : f ≤ (bs.getD k Bx.nil).o) : cutL f (bs.take (k + 1)) = cutL f (bs.take k) ++ [cut1 f (bs.getD k Bx.nil)] := by
  have e : bs.getD k Bx.nil = bs[k] := by simp [h]
  rw [e] at hb ⊢
  unfold cutL
  rw [List.take_succ_eq_append_getElem h, List.filter_append, List.map_append]
  congr 1
  simp [hb]
theorem cutL_drop (f : Int) (bs : List Bx) (k : Nat) (h : k < bs.length) (hb : ¬ f ≤ (bs.getD k Bx.nil).o) : cutL f (bs.take (k + 1)) = cutL f (bs.take k) := by
  have e : bs.getD k Bx.nil = bs[k] := by simp [h]
  rw [e] at hb
  unfold cutL
  rw [List.take_succ_eq_append_getElem h, List.filter_append, List.map_append]
  simp [hb]
theorem cutL_all (f : Int) (bs : List Bx) (k : Nat) (h : ¬ k < bs.length) : cutL f (bs.take k) = cutL f bs := by
  rw [List.take_of_length_le (by omega)]

def Bx.vals (b : Bx) : List Value := [.int .i64 b.x, .int .i64 b.y, .int .i64 b.l, .int .i64 b.h, .int .i64 b.i, .int .i64 b.o]
def flat (bs : List Bx) : List Value := bs.flatMap Bx.vals
theorem flat_snoc (bs : List Bx) (b : Bx) : flat (bs ++ [b]) = flat bs ++ b.vals := by simp [flat]
theorem flat_get (bs : List Bx) (k c : Nat) (hk : k < bs.length) (hc : c < 6) : (flat bs)[k * 6 + c]? = (bs.getD k Bx.nil).vals[c]? := by
  induction bs generalizing k with
  | nil => simp at hk
  | cons b r ih =>
    cases k with
    | zero =>
      simp only [flat, List.flatMap_cons, Nat.zero_mul, Nat.zero_add]
      rw [List.getElem?_append_left (by simp [Bx.vals]; omega)]
      simp
    | succ k =>
      have := ih k (by simpa using hk)
      simp only [flat, List.flatMap_cons] at this ⊢
      rw [List.getElem?_append_right (by simp [Bx.vals]; omega)]
      have e : (k + 1) * 6 + c - b.vals.length = k * 6 + c := by simp [Bx.vals]; omega
      rw [e, this]
      simp

/-- What a row owns that holds boxes: where they lie, and that they may be written. -/
theorem owns_boxes {w : World} {base n : Nat} {v : Value} {bs : List Bx} (hn : n = bs.length) (h : w.ownsRow base 102 6 v n (flat bs)) :
    ∃ a cap, v = .slice a bs.length cap ∧ (∀ g o sp, a = some ⟨g, o, sp⟩ → o = 0 ∧ sp = none ∧ base ≤ g ∧ g < w.heap.size ∧ ∀ k, k < bs.length → Room w g (k * 6)) ∧ Boxes w a bs := by
  subst hn
  rcases h.2 with ⟨rfl, h0⟩ | ⟨g, cap, cur, rfl, hb, hg, h1, h2, h3, h4⟩
  · have e : bs = [] := List.length_eq_zero_iff.1 h0
    subst e
    exact ⟨none, 0, rfl, fun g o sp e => by simp at e, fun k hk => by simp at hk⟩
  · obtain ⟨hl, hb', hr⟩ := room_made h
    refine ⟨_, cap, rfl, fun g' o sp e => ?_, fun k hk => ⟨g, 0, rfl, hl, ?_⟩⟩
    · simp only [Option.some.injEq, Addr.mk.injEq] at e
      obtain ⟨rfl, rfl, rfl⟩ := e
      exact ⟨rfl, rfl, hb', hl, hr⟩
    · have cell : ∀ c, c < 6 → w.cell? ⟨g, k * 6 + c, none⟩ = (bs.getD k Bx.nil).vals[c]? := fun c hc => by
        rw [h.cellAt _ (by omega), flat_get bs k c hk hc]
      rw [Nat.zero_add]
      exact ⟨cell 0 (by omega), cell 1 (by omega), cell 2 (by omega), cell 3 (by omega), cell 4 (by omega), cell 5 (by omega)⟩

theorem owns_block {w : World} {base e size n : Nat} {v : Value} {xs : List Value} (h : w.ownsRow base e size v n xs) : ∀ k, v.ownBlock = some k → base ≤ k := by
  rcases h.2 with ⟨rfl, h0⟩ | ⟨g, cap, cur, rfl, hb, _⟩
  · intro k hk; simp [Value.ownBlock] at hk
  · intro k hk; simp [Value.ownBlock] at hk; omega

/-- A list of boxes of the call's own. -/
def OwnL (w w' : World) (v : Value) (bs : List Bx) : Prop :=
  ∃ a cap, v = .slice a bs.length cap ∧ (∀ g o sp, a = some ⟨g, o, sp⟩ → o = 0 ∧ sp = none ∧ w.heap.size ≤ g ∧ g < w'.heap.size ∧ ∀ k, k < bs.length → Room w' g (k * 6)) ∧ Boxes w' a bs

theorem news6 (W : World) (H : Nat) (hH : H = W.heap.size) (c : Bx) (t : TypeId) (j : Nat) (u : Value) (h : c.vals[j]? = some u) : (W.alloc (.cells #[.int .i64 c.x, .int .i64 c.y, .int .i64 c.l, .int .i64 c.h, .int .i64 c.i, .int .i64 c.o] t)).cell? ((⟨H, 0, none⟩ : Addr).add j) = some u := by
  subst hH
  have e : (⟨W.heap.size, 0, none⟩ : Addr).add j = ⟨W.heap.size, j, none⟩ := by unfold Addr.add; split <;> simp_all
  rw [e]
  have hj : j < 6 := by
    rcases Nat.lt_or_ge j 6 with q | q
    · exact q
    · rw [List.getElem?_eq_none (by simpa [Bx.vals] using q)] at h; simp at h
  rcases (by omega : j = 0 ∨ j = 1 ∨ j = 2 ∨ j = 3 ∨ j = 4 ∨ j = 5) with rfl | rfl | rfl | rfl | rfl | rfl <;> simp [Bx.vals] at h ⊢ <;> exact h
theorem vals_one (c : Bx) : ∀ u ∈ c.vals, u.oneCell' = true := by
  intro u hu
  simp [Bx.vals] at hu
  rcases hu with rfl | rfl | rfl | rfl | rfl | rfl <;> rfl
theorem own_same {w1 : World} {base : Nat} {v : Value} {L M : List Bx} (hM : M = L) (h : w1.ownsRow base 102 6 v L.length (flat L)) : w1.ownsRow base 102 6 v M.length (flat M) := by
  rw [hM]; exact h
theorem own_next {w w1 : World} {v' : Value} {L M : List Bx} {c : Bx} (hM : M = L ++ [c]) (h : w1.ownsRow w.heap.size 102 6 v' (L.length + 1) (flat L ++ c.vals)) : w1.ownsRow w.heap.size 102 6 v' M.length (flat M) := by
  subst hM
  rw [flat_snoc, List.length_append]
  exact h

set_option maxHeartbeats 2000000 in
theorem from_any (a : Option Addr) (cap : Nat) (bs : List Bx) (f : Int) (w : World) (ha : Boxes w a bs) (hn : bs.length ≤ 1048576) :
    Calls Tryz.prog 162 #[.slice a bs.length cap, .int .i64 f] w fun e w' => (∃ v, e = .returned v ∧ OwnL w w' v (cutL f bs)) ∧ Gr w w' := by
  obtain ⟨i0, hi, hz0, hz1, hz2⟩ := info_parts Tryz.info102
  go_enter Tryz.func162, Tryz.ntmps162
  go_wp2
  go_loopw [5, 10] (fun v i wr => ∃ k : Nat, k ≤ bs.length ∧ i = .int .i64 k ∧ Hid (wr.ownsRow w.heap.size 102 6 v (cutL f (bs.take k)).length (flat (cutL f (bs.take k)))) ∧ Gr w wr) (fun _ i _ => bs.length - (intOf i).toNat)
  case atStart => exact ⟨0, Nat.zero_le _, rfl, by show World.ownsRow _ _ _ _ _ _ _; exact World.ownsRow_nil _ _ _ _, Gr.refl _⟩
  case round =>
    obtain ⟨k, hk, rfl, HO, gr⟩ := hrel
    have hcl := cutL_le f (bs.take k)
    have htk : (bs.take k).length ≤ k := List.length_take_le _ _
    by_cases hkl : k < bs.length
    · obtain ⟨g, o, rfl, hg, hx⟩ := ha k hkl
      obtain ⟨c0, c1, c2, c3, c4, c5⟩ := six_gr hx gr hg
      have HK : Hid (f ≤ (bs.getD k Bx.nil).o → cutL f (bs.take (k + 1)) = cutL f (bs.take k) ++ [cut1 f (bs.getD k Bx.nil)]) := fun h => cutL_keep f bs k hkl h
      have HD : Hid (¬ f ≤ (bs.getD k Bx.nil).o → cutL f (bs.take (k + 1)) = cutL f (bs.take k)) := fun h => cutL_drop f bs k hkl h
      clear hx
      generalize bs.getD k Bx.nil = b at *
      by_cases hb : f ≤ b.o
      · have HK' : Hid (cutL f (bs.take (k + 1)) = cutL f (bs.take k) ++ [cut1 f b]) := HK.out hb
        clear HK HD
        by_cases hlt : b.i < f
        · have HC : Hid (cut1 f b = ⟨b.x, b.y, b.l, b.h, f, b.o⟩) := by show cut1 f b = _; simp [cut1, hlt]
          go_wp2_with (at_builtin; refine wpList_append_own _ rfl (.tmp 23) (.tmp 25) 232 rfl w.heap.size 102 i0 _ 6 48 Tryz.underlying232 hi hz0 hz1 hz2 rfl (by decide) _ _ _ rfl ((HO.out.alloc _).alloc _) ⟨wr.heap.size + 1, 0, none⟩ 1 1 (Bx.vals ⟨b.x, b.y, b.l, b.h, f, b.o⟩) rfl rfl (by exact news6 _ _ (by simp) ⟨b.x, b.y, b.l, b.h, f, b.o⟩ 102) (vals_one _) (by unfold maxLen; omega) (by omega) (by have := gr.size; simp; omega) ?_; intro v' w1 hown' hgrow hnil)
          have R := own_next (HK'.out.trans (by rw [HC.out])) hown'
          have R2 : Gr w w1 := Below.grown ((gr.alloc _).alloc _) hgrow (by have := gr.size; simp; omega) (owns_block HO.out)
          clear hown' hgrow hnil
          go_wp2
          go_roundw
          case rel => exact ⟨k + 1, by omega, by go_num, R, R2⟩
          case measure => simp [intOf]; omega
        · have HC : Hid (cut1 f b = ⟨b.x, b.y, b.l, b.h, b.i, b.o⟩) := by show cut1 f b = _; simp [cut1, hlt]
          go_wp2_with (at_builtin; refine wpList_append_own _ rfl (.tmp 23) (.tmp 25) 232 rfl w.heap.size 102 i0 _ 6 48 Tryz.underlying232 hi hz0 hz1 hz2 rfl (by decide) _ _ _ rfl ((HO.out.alloc _).alloc _) ⟨wr.heap.size + 1, 0, none⟩ 1 1 (Bx.vals ⟨b.x, b.y, b.l, b.h, b.i, b.o⟩) rfl rfl (by exact news6 _ _ (by simp) ⟨b.x, b.y, b.l, b.h, b.i, b.o⟩ 102) (vals_one _) (by unfold maxLen; omega) (by omega) (by have := gr.size; simp; omega) ?_; intro v' w1 hown' hgrow hnil)
          have R := own_next (HK'.out.trans (by rw [HC.out])) hown'
          have R2 : Gr w w1 := Below.grown ((gr.alloc _).alloc _) hgrow (by have := gr.size; simp; omega) (owns_block HO.out)
          clear hown' hgrow hnil
          go_wp2
          go_roundw
          case rel => exact ⟨k + 1, by omega, by go_num, R, R2⟩
          case measure => simp [intOf]; omega
      · have HD' : Hid (cutL f (bs.take (k + 1)) = cutL f (bs.take k)) := HD.out hb
        clear HK HD
        go_wp2
        go_roundw
        case rel => exact ⟨k + 1, by omega, by go_num, own_same HD'.out (HO.out.alloc _), gr.alloc _⟩
        case measure => simp [intOf]; omega
    · go_wp2
      go_ret
      have hO := HO.out
      rw [cutL_all f bs k hkl] at hO
      exact ⟨⟨_, rfl, owns_boxes rfl hO⟩, gr⟩

end Go.Proofs.YtpdcgjkfilohcabGreatDoor

namespace Go.Proofs.YtpdcgjkfilohcabGreatDoor
open Go.RowKit
attribute [local go_sem ↓] Go.wp_at_zero Go.wp_at_succ

def cutS (s : ByteArray) (bs : List Bx) : ByteArray := if tubeB s bs then s else ⟨#[]⟩
def cutT (f : Int) (s : ByteArray) (bs : List Bx) : List Bx := if tubeB s bs then cutL f bs else []

theorem ownL_set {w w' : World} {v : Value} {bs : List Bx} (h : OwnL w w' v bs) (p : Addr) (u : Value) (hp : p.block < w.heap.size) : OwnL w (w'.setCell p u) v bs := by
  obtain ⟨a, cap, hv, hr, hb⟩ := h
  refine ⟨a, cap, hv, fun g o sp e => ?_, fun k hk => ?_⟩
  · obtain ⟨h0, h1, h2, h3, h4⟩ := hr g o sp e
    exact ⟨h0, h1, h2, by rw [World.size_setCell]; exact h3, fun k hk => room_set (h4 k hk) p u (by omega)⟩
  · obtain ⟨g, o, e, hg, hx⟩ := hb k hk
    obtain ⟨h0, h1, h2, h3, h4⟩ := hr g o none e
    exact ⟨g, o, e, by rw [World.size_setCell]; exact hg, six_set hx p u (by omega)⟩
theorem ownL_old {w0 w w' : World} {v : Value} {bs : List Bx} (h : OwnL w w' v bs) (hs : w0.heap.size ≤ w.heap.size) : OwnL w0 w' v bs := by
  obtain ⟨a, cap, hv, hr, hb⟩ := h
  refine ⟨a, cap, hv, fun g o sp e => ?_, hb⟩
  obtain ⟨h0, h1, h2, h3, h4⟩ := hr g o sp e
  exact ⟨h0, h1, by omega, h3, h4⟩
theorem ownL_nil (w w' : World) : OwnL w w' (.slice none 0 0) [] := ⟨none, 0, rfl, fun g o sp e => by simp at e, fun k hk => by simp at hk⟩

set_option maxRecDepth 100000 in
set_option maxHeartbeats 4000000 in
theorem implCut_any (s : ByteArray) (a : Option Addr) (cap : Nat) (bs : List Bx) (f : Int) (w : World) (hs : s.size ≤ maxLen) (ha : Boxes w a bs) (hn : bs.length ≤ 1048576) :
    Calls Tryz.prog 123 #[.agg #[.string s, .slice a bs.length cap], .int .i64 f] w fun e w' => (∃ v, e = .returned (.agg #[.string (cutS s bs), v]) ∧ OwnL w w' v (cutT f s bs)) ∧ Gr w w' := by
  have G := Gr.refl ((w.alloc (.cells #[.string s, .slice a bs.length cap] 43)).alloc (.cells #[.string ⟨#[]⟩, .slice none 0 0] 43))
  have GB : Gr w ((w.alloc (.cells #[.string s, .slice a bs.length cap] 43)).alloc (.cells #[.string ⟨#[]⟩, .slice none 0 0] 43)) := ((Gr.refl _).alloc _).alloc _
  cases hA : tubeB s bs
  · have H1 : Hid (cutS s bs = ⟨#[]⟩) := by show cutS s bs = _; simp [cutS, hA]
    have H2 : Hid (cutT f s bs = []) := by show cutT f s bs = _; simp [cutT, hA]
    go_enter Tryz.func123, Tryz.ntmps123
    go_wp2_with (go_at_call 135; refine (implTubeOk_any _ _ _ bs _ hs (boxes_gr ha (GB.trans G)) hn).mono ?_; rintro e w1 ⟨rfl, g1⟩; replace G := Gr.trans (by first | exact G | exact G.drew) g1; (try clear hc hf); obtain ⟨hc, hf⟩ := G.cells)
    refine bodyPost_ret (v := .agg #[.string ⟨#[]⟩, .slice none 0 0]) (by simp [results, Tryz.results123, go_sem, hc]) rfl ⟨⟨_, by rw [H1.out], by rw [H2.out]; exact ownL_nil _ _⟩, ?_⟩
    exact ((GB.trans G).setCell (by dsimp only; omega) _).setCell (by dsimp only; omega) _
  · have H1 : Hid (cutS s bs = s) := by show cutS s bs = _; simp [cutS, hA]
    have H2 : Hid (cutT f s bs = cutL f bs) := by show cutT f s bs = _; simp [cutT, hA]
    have hfa := fun W : World => field71 W s (.slice a bs.length cap) ⟨_, _, _, rfl⟩
    go_enter Tryz.func123, Tryz.ntmps123
    go_upto_region 3 with (go_at_call 135; refine (implTubeOk_any _ _ _ bs _ hs (boxes_gr ha (GB.trans G)) hn).mono ?_; rintro e w1 ⟨rfl, g1⟩; replace G := Gr.trans (by first | exact G | exact G.drew) g1; (try clear hc hf); obtain ⟨hc, hf⟩ := G.cells; clear g1)
    go_region_with (first
      | (go_at_call 158; refine (tubeOf_any _ _ _ ⟨_, _, _, rfl⟩).mono ?_; rintro e w1 ⟨rfl, g1⟩; replace G := Gr.trans (by first | exact G | exact G.drew) g1; (try clear hc hf); obtain ⟨hc, hf⟩ := G.cells; clear g1)
      | (go_at_call 162; refine (from_any _ _ bs _ _ (boxes_gr ha (GB.trans G)) hn).mono ?_; rintro e w2 ⟨⟨v, rfl, hv⟩, g1⟩; replace hv := ownL_old (w0 := ((w.alloc (.cells #[.string s, .slice a bs.length cap] 43)).alloc (.cells #[.string ⟨#[]⟩, .slice none 0 0] 43))) hv G.size; have hv' := hv; obtain ⟨av, cv, rfl, -⟩ := hv'; replace G := Gr.trans (by first | exact G | exact G.drew) g1; (try clear hc hf); obtain ⟨hc, hf⟩ := G.cells; clear g1))
    all_goals
      go_wp2
      refine bodyPost_ret (v := .agg #[.string s, .slice av (cutL f bs).length cv]) (by simp [results, Tryz.results123, go_sem, hc]) rfl ⟨⟨_, by rw [H1.out], by rw [H2.out]; exact ownL_old (w0 := w) (ownL_set (ownL_set hv _ _ (by simp)) _ _ (by simp)) GB.size⟩, ?_⟩
      exact ((GB.trans G).setCell (by dsimp only; omega) _).setCell (by dsimp only; omega) _

end Go.Proofs.YtpdcgjkfilohcabGreatDoor

namespace Go.Proofs.YtpdcgjkfilohcabGreatDoor
open Go.RowKit
attribute [local go_sem ↓] Go.wp_at_zero Go.wp_at_succ

/-- The variable 'out' of the specification's ProbeCut, and what it owns. -/
def OutIs (w wr : World) (s : ByteArray) (v : Value) (L : List Bx) : Prop :=
  wr.cell? ⟨w.heap.size + 1 + 1, 0, none⟩ = some (.string s) ∧ wr.cell? ⟨w.heap.size + 1 + 1, 1, none⟩ = some v ∧ wr.frozen? ⟨w.heap.size + 1 + 1, 1, none⟩ = false ∧ w.heap.size + 1 + 1 < wr.heap.size ∧ wr.ownsRow (w.heap.size + 1 + 1 + 1) 102 6 v L.length (flat L)

theorem out_alloc {w wr : World} {s : ByteArray} {v : Value} {L : List Bx} (h : OutIs w wr s v L) (o : Obj) (hl : w.heap.size + 1 + 1 < wr.heap.size) : OutIs w (wr.alloc o) s v L := by
  obtain ⟨h0, h1, h2, h3, h4⟩ := h
  exact ⟨(World.cell?_alloc_lt _ _ _ hl).trans h0, (World.cell?_alloc_lt _ _ _ hl).trans h1, (((Gr.refl wr).alloc o).cells.2 _ _ hl).trans h2, by simp; omega, h4.alloc o⟩

theorem owns_form {w : World} {base e size n : Nat} {v : Value} {xs : List Value} (h : w.ownsRow base e size v n xs) : ∃ a c, v = .slice a n c := by
  rcases h.2 with ⟨rfl, h0⟩ | ⟨g, cap, cur, rfl, _⟩
  · subst h0; exact ⟨_, _, rfl⟩
  · exact ⟨_, _, rfl⟩
theorem new_free {w w1 : World} {u v : Value} {t : TypeId} (g : Gr (w.alloc (.cells #[u, v] t)) w1) : w1.frozen? ⟨w.heap.size, 1, none⟩ = false := (g.cells.2 _ _ (by simp)).trans (by simp)

theorem out_next {w W w1 : World} {s : ByteArray} {v v' : Value} {L M : List Bx} {c : Bx} (h : OutIs w W s v L) (hM : M = L ++ [c]) (hown : w1.ownsRow (w.heap.size + 1 + 1 + 1) 102 6 v' (L.length + 1) (flat L ++ c.vals)) (hb : Below (w.heap.size + 1 + 1 + 1) W w1) :
    OutIs w (w1.setCell ⟨w.heap.size + 1 + 1, 1, none⟩ v') s v' M := by
  obtain ⟨h0, h1, h2, h3, h4⟩ := h
  have e1 : w1.cell? ⟨w.heap.size + 1 + 1, 1, none⟩ = some v := (hb.cell (p := ⟨w.heap.size + 1 + 1, 1, none⟩) (by simp)).trans h1
  refine ⟨?_, World.cell?_setCell_same _ _ _ e1, ?_, ?_, ?_⟩
  · rw [cell_off _ _ _ _ _ _ (by simp)]
    exact (hb.cell (p := ⟨w.heap.size + 1 + 1, 0, none⟩) (by simp)).trans h0
  · rw [World.frozen?_setCell]
    exact (hb.frozen (p := ⟨w.heap.size + 1 + 1, 1, none⟩) (by simp)).trans h2
  · rw [World.size_setCell]
    exact Nat.lt_of_lt_of_le h3 hb.size
  · subst hM
    rw [flat_snoc, List.length_append]
    exact ownsRow_setCell_below hown (by simp) _

set_option maxRecDepth 100000 in
set_option maxHeartbeats 4000000 in
theorem specCut_any (s : ByteArray) (a : Option Addr) (cap : Nat) (bs : List Bx) (f : Int) (w : World) (hs : s.size ≤ maxLen) (ha : Boxes w a bs) (hn : bs.length ≤ 1048576) :
    Calls Tryz.prog 72 #[.agg #[.string s, .slice a bs.length cap], .int .i64 f] w fun e w' => (∃ v, e = .returned (.agg #[.string (cutS s bs), v]) ∧ OwnL w w' v (cutT f s bs)) ∧ Gr w w' := by
  obtain ⟨i0, hi, hz0, hz1, hz2⟩ := info_parts Tryz.info102
  have G := Gr.refl (((w.alloc (.cells #[.string s, .slice a bs.length cap] 43)).alloc (.cells #[.string ⟨#[]⟩, .slice none 0 0] 43)).alloc (.cells #[.string s, .slice none 0 0] 43))
  have GB : Gr w ((w.alloc (.cells #[.string s, .slice a bs.length cap] 43)).alloc (.cells #[.string ⟨#[]⟩, .slice none 0 0] 43)) := ((Gr.refl _).alloc _).alloc _
  have GO : Gr w (((w.alloc (.cells #[.string s, .slice a bs.length cap] 43)).alloc (.cells #[.string ⟨#[]⟩, .slice none 0 0] 43)).alloc (.cells #[.string s, .slice none 0 0] 43)) := (((Gr.refl _).alloc _).alloc _).alloc _
  cases hA : tubeB s bs
  · have H1 : Hid (cutS s bs = ⟨#[]⟩) := by show cutS s bs = _; simp [cutS, hA]
    have H2 : Hid (cutT f s bs = []) := by show cutT f s bs = _; simp [cutT, hA]
    go_enter Tryz.func72, Tryz.ntmps72
    go_wp2_with (go_at_call 48; refine (specTubeOk_any _ _ _ bs _ hs (boxes_gr ha (GO.trans G)) hn).mono ?_; rintro e w1 ⟨rfl, g1⟩; replace G := Gr.trans (by first | exact G | exact G.drew) g1; (try clear hc hf); obtain ⟨hc, hf⟩ := G.cells)
    refine bodyPost_ret (v := .agg #[.string ⟨#[]⟩, .slice none 0 0]) (by simp [results, Tryz.results72, go_sem, hc]) rfl ⟨⟨_, by rw [H1.out], by rw [H2.out]; exact ownL_nil _ _⟩, ?_⟩
    exact ((GO.trans G).setCell (by dsimp only; omega) _).setCell (by dsimp only; omega) _
  · have H1 : Hid (cutS s bs = s) := by show cutS s bs = _; simp [cutS, hA]
    have H2 : Hid (cutT f s bs = cutL f bs) := by show cutT f s bs = _; simp [cutT, hA]
    go_enter Tryz.func72, Tryz.ntmps72
    go_wp2_with (go_at_call 48; refine (specTubeOk_any _ _ _ bs _ hs (boxes_gr ha (GO.trans G)) hn).mono ?_; rintro e w1 ⟨rfl, g1⟩; replace G := Gr.trans (by first | exact G | exact G.drew) g1; (try clear hc hf); obtain ⟨hc, hf⟩ := G.cells; clear g1)
    have hO1 : OutIs w w1 s (.slice none 0 0) (cutL f (bs.take 0)) := by
      obtain ⟨n1, n2, n3⟩ := new_pair G
      have n4 := new_free G
      have eB : ((w.alloc (.cells #[.string s, .slice a bs.length cap] 43)).alloc (.cells #[.string ⟨#[]⟩, .slice none 0 0] 43)).heap.size = w.heap.size + 1 + 1 := by simp
      rw [eB] at n1 n2 n3 n4
      refine ⟨n2, n3, n4, n1, ?_⟩
      exact World.ownsRow_nil _ _ _ _
    have G1 : Gr ((w.alloc (.cells #[.string s, .slice a bs.length cap] 43)).alloc (.cells #[.string ⟨#[]⟩, .slice none 0 0] 43)) w1 := ((Gr.refl _).alloc _).trans G
    clear hc hf G
    go_loopw [6] (fun i wr => ∃ (k : Nat) (v : Value), k ≤ bs.length ∧ i = .int .i64 k ∧ Hid (OutIs w wr s v (cutL f (bs.take k))) ∧ Gr ((w.alloc (.cells #[.string s, .slice a bs.length cap] 43)).alloc (.cells #[.string ⟨#[]⟩, .slice none 0 0] 43)) wr) (fun i _ => bs.length - (intOf i).toNat)
    case atStart => exact ⟨0, _, Nat.zero_le _, rfl, hO1, G1⟩
    case round =>
      obtain ⟨k, v, hk, rfl, HO, gr⟩ := hrel
      obtain ⟨p0, p1, p2, p3, -⟩ := HO.out
      have hcl := cutL_le f (bs.take k)
      have htk : (bs.take k).length ≤ k := List.length_take_le _ _
      obtain ⟨hl, e0, e1, e2, e3⟩ := two_pairs gr
      have l0 := Nat.lt_of_succ_lt hl
      by_cases hkl : k < bs.length
      · obtain ⟨g, o, rfl, hg, hx⟩ := ha k hkl
        obtain ⟨c0, c1, c2, c3, c4, c5⟩ := six_gr hx (GB.trans gr) hg
        have HK : Hid (f ≤ (bs.getD k Bx.nil).o → cutL f (bs.take (k + 1)) = cutL f (bs.take k) ++ [cut1 f (bs.getD k Bx.nil)]) := fun h => cutL_keep f bs k hkl h
        have HD : Hid (¬ f ≤ (bs.getD k Bx.nil).o → cutL f (bs.take (k + 1)) = cutL f (bs.take k)) := fun h => cutL_drop f bs k hkl h
        clear hx
        generalize bs.getD k Bx.nil = b at *
        by_cases hb : b.o < f
        · have HD' : Hid (cutL f (bs.take (k + 1)) = cutL f (bs.take k)) := HD.out (by omega)
          clear HK HD
          go_wp2
          go_roundw
          case rel => exact ⟨k + 1, v, by omega, by go_num, by show OutIs _ _ _ _ _; rw [HD'.out]; exact out_alloc HO.out (.cells #[.int .i64 b.x, .int .i64 b.y, .int .i64 b.l, .int .i64 b.h, .int .i64 b.i, .int .i64 b.o] 102) p3, gr.alloc _⟩
          case measure => simp [intOf]; omega
        · have HK' : Hid (cutL f (bs.take (k + 1)) = cutL f (bs.take k) ++ [cut1 f b]) := HK.out (by omega)
          clear HK HD
          by_cases hlt : b.i < f
          · have HC : Hid (cut1 f b = ⟨b.x, b.y, b.l, b.h, f, b.o⟩) := by show cut1 f b = _; simp [cut1, hlt]
            go_wp2_with (at_builtin; refine wpList_append_own _ rfl (.tmp 38) (.tmp 40) 41 rfl (w.heap.size + 1 + 1 + 1) 102 i0 _ 6 48 Tryz.underlying41 hi hz0 hz1 hz2 rfl (by decide) _ _ _ rfl ((HO.out.2.2.2.2.alloc _).alloc _) ⟨wr.heap.size + 1, 0, none⟩ 1 1 (Bx.vals ⟨b.x, b.y, b.l, b.h, f, b.o⟩) rfl rfl (by exact news6 _ _ (by simp) ⟨b.x, b.y, b.l, b.h, f, b.o⟩ 102) (vals_one _) (by unfold maxLen; omega) (by omega) (by simp; omega) ?_; intro v' w2 hown' hgrow hnil; obtain ⟨av, cv, hav⟩ := owns_form hown'; subst hav; have hbl := Below.grown (Below.refl (w.heap.size + 1 + 1 + 1) _) hgrow (by simp; omega) (owns_block HO.out.2.2.2.2); have q1 := hbl.cell (p := ⟨w.heap.size + 1 + 1, 1, none⟩) (by simp); have q2 := hbl.frozen (p := ⟨w.heap.size + 1 + 1, 1, none⟩) (by simp))
            have R := out_next (out_alloc (out_alloc HO.out (.cells #[.int .i64 (⟨b.x, b.y, b.l, b.h, f, b.o⟩ : Bx).x, .int .i64 (⟨b.x, b.y, b.l, b.h, f, b.o⟩ : Bx).y, .int .i64 (⟨b.x, b.y, b.l, b.h, f, b.o⟩ : Bx).l, .int .i64 (⟨b.x, b.y, b.l, b.h, f, b.o⟩ : Bx).h, .int .i64 (⟨b.x, b.y, b.l, b.h, f, b.o⟩ : Bx).i, .int .i64 (⟨b.x, b.y, b.l, b.h, f, b.o⟩ : Bx).o] 102) p3) (.cells #[.int .i64 (⟨b.x, b.y, b.l, b.h, f, b.o⟩ : Bx).x, .int .i64 (⟨b.x, b.y, b.l, b.h, f, b.o⟩ : Bx).y, .int .i64 (⟨b.x, b.y, b.l, b.h, f, b.o⟩ : Bx).l, .int .i64 (⟨b.x, b.y, b.l, b.h, f, b.o⟩ : Bx).h, .int .i64 (⟨b.x, b.y, b.l, b.h, f, b.o⟩ : Bx).i, .int .i64 (⟨b.x, b.y, b.l, b.h, f, b.o⟩ : Bx).o] 102) (by simp; omega)) (HK'.out.trans (by rw [HC.out])) hown' hbl
            have R2 : Gr ((w.alloc (.cells #[.string s, .slice (some ⟨g, o, none⟩) bs.length cap] 43)).alloc (.cells #[.string ⟨#[]⟩, .slice none 0 0] 43)) w2 := Below.grown ((gr.alloc _).alloc _) hgrow (by simp; omega) (fun q hq => by have := owns_block HO.out.2.2.2.2 q hq; simp; omega)
            clear hown' hgrow hbl
            go_wp2
            go_roundw
            case rel => exact ⟨k + 1, _, by omega, by go_num, R, R2.setCell (by simp) _⟩
            case measure => simp [intOf]; omega
          · have HC : Hid (cut1 f b = ⟨b.x, b.y, b.l, b.h, b.i, b.o⟩) := by show cut1 f b = _; simp [cut1, hlt]
            go_wp2_with (at_builtin; refine wpList_append_own _ rfl (.tmp 38) (.tmp 40) 41 rfl (w.heap.size + 1 + 1 + 1) 102 i0 _ 6 48 Tryz.underlying41 hi hz0 hz1 hz2 rfl (by decide) _ _ _ rfl ((HO.out.2.2.2.2.alloc _).alloc _) ⟨wr.heap.size + 1, 0, none⟩ 1 1 (Bx.vals ⟨b.x, b.y, b.l, b.h, b.i, b.o⟩) rfl rfl (by exact news6 _ _ (by simp) ⟨b.x, b.y, b.l, b.h, b.i, b.o⟩ 102) (vals_one _) (by unfold maxLen; omega) (by omega) (by simp; omega) ?_; intro v' w2 hown' hgrow hnil; obtain ⟨av, cv, hav⟩ := owns_form hown'; subst hav; have hbl := Below.grown (Below.refl (w.heap.size + 1 + 1 + 1) _) hgrow (by simp; omega) (owns_block HO.out.2.2.2.2); have q1 := hbl.cell (p := ⟨w.heap.size + 1 + 1, 1, none⟩) (by simp); have q2 := hbl.frozen (p := ⟨w.heap.size + 1 + 1, 1, none⟩) (by simp))
            have R := out_next (out_alloc (out_alloc HO.out (.cells #[.int .i64 (⟨b.x, b.y, b.l, b.h, b.i, b.o⟩ : Bx).x, .int .i64 (⟨b.x, b.y, b.l, b.h, b.i, b.o⟩ : Bx).y, .int .i64 (⟨b.x, b.y, b.l, b.h, b.i, b.o⟩ : Bx).l, .int .i64 (⟨b.x, b.y, b.l, b.h, b.i, b.o⟩ : Bx).h, .int .i64 (⟨b.x, b.y, b.l, b.h, b.i, b.o⟩ : Bx).i, .int .i64 (⟨b.x, b.y, b.l, b.h, b.i, b.o⟩ : Bx).o] 102) p3) (.cells #[.int .i64 (⟨b.x, b.y, b.l, b.h, b.i, b.o⟩ : Bx).x, .int .i64 (⟨b.x, b.y, b.l, b.h, b.i, b.o⟩ : Bx).y, .int .i64 (⟨b.x, b.y, b.l, b.h, b.i, b.o⟩ : Bx).l, .int .i64 (⟨b.x, b.y, b.l, b.h, b.i, b.o⟩ : Bx).h, .int .i64 (⟨b.x, b.y, b.l, b.h, b.i, b.o⟩ : Bx).i, .int .i64 (⟨b.x, b.y, b.l, b.h, b.i, b.o⟩ : Bx).o] 102) (by simp; omega)) (HK'.out.trans (by rw [HC.out])) hown' hbl
            have R2 : Gr ((w.alloc (.cells #[.string s, .slice (some ⟨g, o, none⟩) bs.length cap] 43)).alloc (.cells #[.string ⟨#[]⟩, .slice none 0 0] 43)) w2 := Below.grown ((gr.alloc _).alloc _) hgrow (by simp; omega) (fun q hq => by have := owns_block HO.out.2.2.2.2 q hq; simp; omega)
            clear hown' hgrow hbl
            go_wp2
            go_roundw
            case rel => exact ⟨k + 1, _, by omega, by go_num, R, R2.setCell (by simp) _⟩
            case measure => simp [intOf]; omega
      · have hO := HO.out
        rw [cutL_all f bs k hkl] at hO
        obtain ⟨o0, o1, o2, o3, o4⟩ := hO
        have hL : OwnL ((w.alloc (.cells #[.string s, .slice a bs.length cap] 43)).alloc (.cells #[.string ⟨#[]⟩, .slice none 0 0] 43)) wr v (cutL f bs) := by
          obtain ⟨a1, c1, hv, hr, hb1⟩ := owns_boxes rfl o4
          exact ⟨a1, c1, hv, fun g o sp e => by obtain ⟨h0, h1, h2, h3, h4⟩ := hr g o sp e; exact ⟨h0, h1, by simp; omega, h3, h4⟩, hb1⟩
        have hL' := hL
        obtain ⟨av, cv, rfl, -⟩ := hL'
        obtain ⟨hc, hf⟩ := gr.cells
        clear e0 e1 e2 e3 p0 p1 p2 p3
        go_wp2
        refine bodyPost_ret (v := .agg #[.string s, .slice av (cutL f bs).length cv]) (by simp [results, Tryz.results72, go_sem, hc]) rfl ⟨⟨_, by rw [H1.out], by rw [H2.out]; exact ownL_old (w0 := w) (ownL_set (ownL_set hL _ _ (by simp)) _ _ (by simp)) GB.size⟩, ?_⟩
        exact ((GB.trans gr).setCell (by dsimp only; omega) _).setCell (by dsimp only; omega) _

end Go.Proofs.YtpdcgjkfilohcabGreatDoor
