import Derived.Test.YtpdcgjkfilohcaaSmallB
namespace Go.Proofs.Ytpdcgjkfilohcaa
open Go.RowKit
attribute [local go_sem ↓] Go.wp_at_zero Go.wp_at_succ

/-- A box from a tick on. -/
def cut1 (f : Int) (b : Bx) : Bx := ⟨b.x, b.y, b.l, b.h, if b.i < f then f else b.i, b.o⟩
def cutL (f : Int) (bs : List Bx) : List Bx := (bs.filter fun b => decide (f ≤ b.o)).map (cut1 f)
theorem cutL_le (f : Int) (bs : List Bx) : (cutL f bs).length ≤ bs.length := by
  unfold cutL; rw [List.length_map]; exact List.length_filter_le _ _
theorem cutL_keep (f : Int) (bs : List Bx) (k : Nat) (h : k < bs.length) (hb : f ≤ (bs.getD k Bx.nil).o) : cutL f (bs.take (k + 1)) = cutL f (bs.take k) ++ [cut1 f (bs.getD k Bx.nil)] := by
  have e : bs.getD k Bx.nil = bs[k] := by simp [h]
  rw [e] at hb ⊢
  unfold cutL
  rw [List.take_succ_eq_append_getElem h, List.filter_append, List.map_append]
  congr 1
  simp [hb]
theorem cutL_drop (f : Int) (bs : List Bx) (k : Nat) (h : k < bs.length) (hb : ¬ f ≤ (bs.getD k Bx.nil).o) : cutL f (bs.take (k + 1)) = cutL f (bs.take k) := by
  have e : bs.getD k Bx.nil = bs[k] := by simp [h]
  rw [e] at hb
  unfold cutL
  rw [List.take_succ_eq_append_getElem h, List.filter_append, List.map_append]
  simp [hb]
theorem cutL_all (f : Int) (bs : List Bx) (k : Nat) (h : ¬ k < bs.length) : cutL f (bs.take k) = cutL f bs := by
  rw [List.take_of_length_le (by omega)]

def Bx.vals (b : Bx) : List Value := [.int .i64 b.x, .int .i64 b.y, .int .i64 b.l, .int .i64 b.h, .int .i64 b.i, .int .i64 b.o]
def flat (bs : List Bx) : List Value := bs.flatMap Bx.vals
theorem flat_snoc (bs : List Bx) (b : Bx) : flat (bs ++ [b]) = flat bs ++ b.vals := by simp [flat]
theorem flat_get (bs : List Bx) (k c : Nat) (hk : k < bs.length) (hc : c < 6) : (flat bs)[k * 6 + c]? = (bs.getD k Bx.nil).vals[c]? := by
  induction bs generalizing k with
  | nil => simp at hk
  | cons b r ih =>
    cases k with
    | zero =>
      simp only [flat, List.flatMap_cons, Nat.zero_mul, Nat.zero_add]
      rw [List.getElem?_append_left (by simp [Bx.vals]; omega)]
      simp
    | succ k =>
      have := ih k (by simpa using hk)
      simp only [flat, List.flatMap_cons] at this ⊢
      rw [List.getElem?_append_right (by simp [Bx.vals]; omega)]
      have e : (k + 1) * 6 + c - b.vals.length = k * 6 + c := by simp [Bx.vals]; omega
      rw [e, this]
      simp

/-- What a row owns that holds boxes: where they lie, and that they may be written. -/
theorem owns_boxes {w : World} {base n : Nat} {v : Value} {bs : List Bx} (hn : n = bs.length) (h : w.ownsRow base 36 6 v n (flat bs)) :
    ∃ a cap, v = .slice a bs.length cap ∧ (∀ g o sp, a = some ⟨g, o, sp⟩ → o = 0 ∧ sp = none ∧ base ≤ g ∧ g < w.heap.size ∧ ∀ k, k < bs.length → Room w g (k * 6)) ∧ Boxes w a bs := by
  subst hn
  rcases h.2 with ⟨rfl, h0⟩ | ⟨g, cap, cur, rfl, hb, hg, h1, h2, h3, h4⟩
  · have e : bs = [] := List.length_eq_zero_iff.1 h0
    subst e
    exact ⟨none, 0, rfl, fun g o sp e => by simp at e, fun k hk => by simp at hk⟩
  · obtain ⟨hl, hb', hr⟩ := room_made h
    refine ⟨_, cap, rfl, fun g' o sp e => ?_, fun k hk => ⟨g, 0, rfl, hl, ?_⟩⟩
    · simp only [Option.some.injEq, Addr.mk.injEq] at e
      obtain ⟨rfl, rfl, rfl⟩ := e
      exact ⟨rfl, rfl, hb', hl, hr⟩
    · have cell : ∀ c, c < 6 → w.cell? ⟨g, k * 6 + c, none⟩ = (bs.getD k Bx.nil).vals[c]? := fun c hc => by
        rw [h.cellAt _ (by omega), flat_get bs k c hk hc]
      rw [Nat.zero_add]
      exact ⟨cell 0 (by omega), cell 1 (by omega), cell 2 (by omega), cell 3 (by omega), cell 4 (by omega), cell 5 (by omega)⟩

theorem owns_block {w : World} {base e size n : Nat} {v : Value} {xs : List Value} (h : w.ownsRow base e size v n xs) : ∀ k, v.ownBlock = some k → base ≤ k := by
  rcases h.2 with ⟨rfl, h0⟩ | ⟨g, cap, cur, rfl, hb, _⟩
  · intro k hk; simp [Value.ownBlock] at hk
  · intro k hk; simp [Value.ownBlock] at hk; omega

/-- A list of boxes of the call's own. -/
def OwnL (w w' : World) (v : Value) (bs : List Bx) : Prop :=
  ∃ a cap, v = .slice a bs.length cap ∧ (∀ g o sp, a = some ⟨g, o, sp⟩ → o = 0 ∧ sp = none ∧ w.heap.size ≤ g ∧ g < w'.heap.size ∧ ∀ k, k < bs.length → Room w' g (k * 6)) ∧ Boxes w' a bs

theorem news6 (W : World) (H : Nat) (hH : H = W.heap.size) (c : Bx) (t : TypeId) (j : Nat) (u : Value) (h : c.vals[j]? = some u) : (W.alloc (.cells #[.int .i64 c.x, .int .i64 c.y, .int .i64 c.l, .int .i64 c.h, .int .i64 c.i, .int .i64 c.o] t)).cell? ((⟨H, 0, none⟩ : Addr).add j) = some u := by
  subst hH
  have e : (⟨W.heap.size, 0, none⟩ : Addr).add j = ⟨W.heap.size, j, none⟩ := by unfold Addr.add; split <;> simp_all
  rw [e]
  have hj : j < 6 := by
    rcases Nat.lt_or_ge j 6 with q | q
    · exact q
    · rw [List.getElem?_eq_none (by simpa [Bx.vals] using q)] at h; simp at h
  rcases (by omega : j = 0 ∨ j = 1 ∨ j = 2 ∨ j = 3 ∨ j = 4 ∨ j = 5) with rfl | rfl | rfl | rfl | rfl | rfl <;> simp [Bx.vals] at h ⊢ <;> exact h
theorem vals_one (c : Bx) : ∀ u ∈ c.vals, u.oneCell' = true := by
  intro u hu
  simp [Bx.vals] at hu
  rcases hu with rfl | rfl | rfl | rfl | rfl | rfl <;> rfl
theorem own_same {w1 : World} {base : Nat} {v : Value} {L M : List Bx} (hM : M = L) (h : w1.ownsRow base 36 6 v L.length (flat L)) : w1.ownsRow base 36 6 v M.length (flat M) := by
  rw [hM]; exact h
theorem own_next {w w1 : World} {v' : Value} {L M : List Bx} {c : Bx} (hM : M = L ++ [c]) (h : w1.ownsRow w.heap.size 36 6 v' (L.length + 1) (flat L ++ c.vals)) : w1.ownsRow w.heap.size 36 6 v' M.length (flat M) := by
  subst hM
  rw [flat_snoc, List.length_append]
  exact h

set_option maxHeartbeats 2000000 in
theorem from_any (a : Option Addr) (cap : Nat) (bs : List Bx) (f : Int) (w : World) (ha : Boxes w a bs) (hn : bs.length ≤ 1048576) :
    Calls Try.prog 49 #[.slice a bs.length cap, .int .i64 f] w fun e w' => (∃ v, e = .returned v ∧ OwnL w w' v (cutL f bs)) ∧ Gr w w' := by
  obtain ⟨i0, hi, hz0, hz1, hz2⟩ := info_parts Try.info36
  go_enter Try.func49, Try.ntmps49
  go_wp2
  go_loopw [5, 10] (fun v i wr => ∃ k : Nat, k ≤ bs.length ∧ i = .int .i64 k ∧ Hid (wr.ownsRow w.heap.size 36 6 v (cutL f (bs.take k)).length (flat (cutL f (bs.take k)))) ∧ Gr w wr) (fun _ i _ => bs.length - (intOf i).toNat)
  case atStart => exact ⟨0, Nat.zero_le _, rfl, by show World.ownsRow _ _ _ _ _ _ _; exact World.ownsRow_nil _ _ _ _, Gr.refl _⟩
  case round =>
    obtain ⟨k, hk, rfl, HO, gr⟩ := hrel
    have hcl := cutL_le f (bs.take k)
    have htk : (bs.take k).length ≤ k := List.length_take_le _ _
    by_cases hkl : k < bs.length
    · obtain ⟨g, o, rfl, hg, hx⟩ := ha k hkl
      obtain ⟨c0, c1, c2, c3, c4, c5⟩ := six_gr hx gr hg
      have HK : Hid (f ≤ (bs.getD k Bx.nil).o → cutL f (bs.take (k + 1)) = cutL f (bs.take k) ++ [cut1 f (bs.getD k Bx.nil)]) := fun h => cutL_keep f bs k hkl h
      have HD : Hid (¬ f ≤ (bs.getD k Bx.nil).o → cutL f (bs.take (k + 1)) = cutL f (bs.take k)) := fun h => cutL_drop f bs k hkl h
      clear hx
      generalize bs.getD k Bx.nil = b at *
      by_cases hb : f ≤ b.o
      · have HK' : Hid (cutL f (bs.take (k + 1)) = cutL f (bs.take k) ++ [cut1 f b]) := HK.out hb
        clear HK HD
        by_cases hlt : b.i < f
        · have HC : Hid (cut1 f b = ⟨b.x, b.y, b.l, b.h, f, b.o⟩) := by show cut1 f b = _; simp [cut1, hlt]
          go_wp2_with (at_builtin; refine wpList_append_own _ rfl (.tmp 23) (.tmp 25) 69 rfl w.heap.size 36 i0 _ 6 48 Try.underlying69 hi hz0 hz1 hz2 rfl (by decide) _ _ _ rfl ((HO.out.alloc _).alloc _) ⟨wr.heap.size + 1, 0, none⟩ 1 1 (Bx.vals ⟨b.x, b.y, b.l, b.h, f, b.o⟩) rfl rfl (by exact news6 _ _ (by simp) ⟨b.x, b.y, b.l, b.h, f, b.o⟩ 36) (vals_one _) (by unfold maxLen; omega) (by omega) (by have := gr.size; simp; omega) ?_; intro v' w1 hown' hgrow hnil)
          have R := own_next (HK'.out.trans (by rw [HC.out])) hown'
          have R2 : Gr w w1 := Below.grown ((gr.alloc _).alloc _) hgrow (by have := gr.size; simp; omega) (owns_block HO.out)
          clear hown' hgrow hnil
          go_wp2
          go_roundw
          case rel => exact ⟨k + 1, by omega, by go_num, R, R2⟩
          case measure => simp [intOf]; omega
        · have HC : Hid (cut1 f b = ⟨b.x, b.y, b.l, b.h, b.i, b.o⟩) := by show cut1 f b = _; simp [cut1, hlt]
          go_wp2_with (at_builtin; refine wpList_append_own _ rfl (.tmp 23) (.tmp 25) 69 rfl w.heap.size 36 i0 _ 6 48 Try.underlying69 hi hz0 hz1 hz2 rfl (by decide) _ _ _ rfl ((HO.out.alloc _).alloc _) ⟨wr.heap.size + 1, 0, none⟩ 1 1 (Bx.vals ⟨b.x, b.y, b.l, b.h, b.i, b.o⟩) rfl rfl (by exact news6 _ _ (by simp) ⟨b.x, b.y, b.l, b.h, b.i, b.o⟩ 36) (vals_one _) (by unfold maxLen; omega) (by omega) (by have := gr.size; simp; omega) ?_; intro v' w1 hown' hgrow hnil)
          have R := own_next (HK'.out.trans (by rw [HC.out])) hown'
          have R2 : Gr w w1 := Below.grown ((gr.alloc _).alloc _) hgrow (by have := gr.size; simp; omega) (owns_block HO.out)
          clear hown' hgrow hnil
          go_wp2
          go_roundw
          case rel => exact ⟨k + 1, by omega, by go_num, R, R2⟩
          case measure => simp [intOf]; omega
      · have HD' : Hid (cutL f (bs.take (k + 1)) = cutL f (bs.take k)) := HD.out hb
        clear HK HD
        go_wp2
        go_roundw
        case rel => exact ⟨k + 1, by omega, by go_num, own_same HD'.out (HO.out.alloc _), gr.alloc _⟩
        case measure => simp [intOf]; omega
    · go_wp2
      go_ret
      have hO := HO.out
      rw [cutL_all f bs k hkl] at hO
      exact ⟨⟨_, rfl, owns_boxes rfl hO⟩, gr⟩

end Go.Proofs.Ytpdcgjkfilohcaa
