import Derived.Test.YtpdcgjkfilohcabGreatCutAC
namespace Go.Proofs.YtpdcgjkfilohcabGreat
open Go.RowKit
attribute [local go_sem ↓] Go.wp_at_zero Go.wp_at_succ

/-- A box of marks. -/
def markBx (k : Int) : Bx := ⟨k, k + 1, k + 1 + 1, k + 1 + 1 + 1, k + 1 + 1 + 1 + 1, k + 1 + 1 + 1 + 1 + 1⟩
/-- The first n boxes from an address on bear marks. -/
def Marked (w : World) (a : Option Addr) (n : Nat) (k : Int) : Prop := ∀ j, j < n → ∃ g, a = some ⟨g, 0, none⟩ ∧ g < w.heap.size ∧ Six w g (j * 6) (markBx (k + 6 * j))
def Rooms (w : World) (a : Option Addr) (n : Nat) : Prop := ∀ j, j < n → ∃ g, a = some ⟨g, 0, none⟩ ∧ g < w.heap.size ∧ Room w g (j * 6)
/-- But for the block at a, all that was there is as it was. -/
def Mk (a : Option Addr) (w w' : World) : Prop :=
  w.heap.size ≤ w'.heap.size ∧ (∀ q r, q < w.heap.size → a ≠ some ⟨q, 0, none⟩ → w'.cell? ⟨q, r, none⟩ = w.cell? ⟨q, r, none⟩) ∧ (∀ q r, q < w.heap.size → w'.frozen? ⟨q, r, none⟩ = w.frozen? ⟨q, r, none⟩) ∧
  (∀ B, Gr B w → (∀ g, a = some ⟨g, 0, none⟩ → B.heap.size ≤ g) → Gr B w') ∧ (∀ q o, q < w.heap.size → Room w q o → Room w' q o)
theorem Mk.refl (a : Option Addr) (w : World) : Mk a w w := ⟨Nat.le_refl _, fun _ _ _ _ => rfl, fun _ _ _ => rfl, fun _ h _ => h, fun _ _ _ h => h⟩
theorem Mk.put {a : Option Addr} {w w' : World} {g o : Nat} (h : Mk a w w') (ha : a = some ⟨g, 0, none⟩) (b : Bx) : Mk a w (put6 w' g o b) := by
  obtain ⟨h1, h2, h3, h4, h5⟩ := h
  refine ⟨by rw [put6_size]; exact h1, fun q r hq hne => ?_, fun q r hq => ?_, fun B hB hg => ?_, fun q p hq hr => put6_room b (h5 q p hq hr)⟩
  · rw [put6_out _ _ _ _ _ _ (Or.inl (fun e => hne (by rw [ha, e])))]
    exact h2 q r hq hne
  · rw [put6_frozen]; exact h3 q r hq
  · exact put6_gr (h4 B hB hg) (hg g ha) b
theorem Mk.pre {a : Option Addr} {w0 w w' : World} (g : Gr w0 w) (h : Mk a w w') : Mk a w0 w' := by
  obtain ⟨h1, h2, h3, h4, h5⟩ := h
  have hs := g.size
  refine ⟨by omega, fun q r hq hne => (h2 q r (by omega) hne).trans (g.cells.1 q r hq), fun q r hq => (h3 q r (by omega)).trans (g.cells.2 q r hq), fun B hB hg => h4 B (hB.trans g) hg, fun q o hq hr => h5 q o (by omega) (room_gr hr g hq)⟩
theorem rooms_gr {w w' : World} {a : Option Addr} {n : Nat} (h : Rooms w a n) (gr : Gr w w') : Rooms w' a n := fun j hj => by
  obtain ⟨g, e, hg, hr⟩ := h j hj
  exact ⟨g, e, Nat.lt_of_lt_of_le hg gr.size, room_gr hr gr hg⟩
theorem marked_gr {w w' : World} {a : Option Addr} {n : Nat} {k : Int} (h : Marked w a n k) (gr : Gr w w') : Marked w' a n k := fun j hj => by
  obtain ⟨g, e, hg, hr⟩ := h j hj
  exact ⟨g, e, Nat.lt_of_lt_of_le hg gr.size, six_gr hr gr hg⟩

theorem mark_next {w wr : World} {a : Option Addr} {g j : Nat} {k : Int} (ha : a = some ⟨g, 0, none⟩) (hr : Room wr g (j * 6)) (hm : Mk a w wr) (hs : ∀ m, m < j → Six wr g (m * 6) (markBx (k + 6 * m))) :
    Mk a w (put6 wr g (j * 6) (markBx (k + 6 * j))) ∧ ∀ m, m < j + 1 → Six (put6 wr g (j * 6) (markBx (k + 6 * j))) g (m * 6) (markBx (k + 6 * m)) := by
  refine ⟨hm.put ha _, fun m hmj => ?_⟩
  by_cases e : m = j
  · subst e; exact put6_six _ hr
  · exact put6_other _ _ (hs m (by omega)) (by omega)

set_option maxRecDepth 100000 in
set_option maxHeartbeats 4000000 in
theorem markBoxS_any (a : Option Addr) (n cap : Nat) (k : Int) (w : World) (hr : Rooms w a n) (hn : n ≤ 1048576) (h0 : 0 ≤ k) (h1 : k ≤ 10) :
    Calls Tryz.prog 40 #[.slice a n cap, .int .i64 k] w fun e w' => e = .returned (.int .i64 (k + 6 * n)) ∧ Mk a w w' ∧ Marked w' a n k := by
  go_enter Tryz.func40, Tryz.ntmps40
  go_wp2
  go_loopw [1, 5] (fun q i wr => ∃ j : Nat, j ≤ n ∧ i = .int .i64 j ∧ q = .int .i64 (k + 6 * j) ∧ Mk a w wr ∧ Hid (∀ m, m < j → ∃ g, a = some ⟨g, 0, none⟩ ∧ Six wr g (m * 6) (markBx (k + 6 * m)))) (fun _ i _ => n - (intOf i).toNat)
  case atStart => exact ⟨0, Nat.zero_le _, rfl, by simp, Mk.refl _ _, by intro m hm; omega⟩
  case round =>
    obtain ⟨j, hj, rfl, rfl, hm, hs⟩ := hrel
    by_cases hjl : j < n
    · obtain ⟨g, rfl, hg, hro⟩ := hr j hjl
      have hro' := hm.2.2.2.2 g _ hg hro
      have hgr : g < wr.heap.size := Nat.lt_of_lt_of_le hg hm.1
      have HM : Hid (Mk (some ⟨g, 0, none⟩) w wr) := hm
      have HR : Hid (Room wr g (j * 6)) := hro'
      obtain ⟨⟨⟨u0, r0⟩, f0⟩, ⟨⟨u1, r1⟩, f1⟩, ⟨⟨u2, r2⟩, f2⟩, ⟨⟨u3, r3⟩, f3⟩, ⟨⟨u4, r4⟩, f4⟩, ⟨⟨u5, r5⟩, f5⟩⟩ := hro'
      obtain ⟨K, hK⟩ : ∃ K : Int, K = k + 6 * j := ⟨_, rfl⟩
      have k0 : 0 ≤ K := by omega
      have k1 : K ≤ 10000000 := by omega
      rw [← hK]
      have HKe : Hid (K = k + 6 * j) := hK
      have R := mark_next (k := k) rfl HR.out HM.out (fun m hmj => by obtain ⟨g', e, hx⟩ := hs.out m hmj; simp only [Option.some.injEq, Addr.mk.injEq, and_true] at e; subst e; exact hx)
      rw [← hK] at R
      have HR2 : Hid (Mk (some ⟨g, 0, none⟩) w (put6 wr g (j * 6) (markBx K)) ∧ ∀ m, m < j + 1 → Six (put6 wr g (j * 6) (markBx K)) g (m * 6) (markBx (k + 6 * m))) := R
      clear hK hm hro R
      go_wp2
      go_roundw
      case rel => exact ⟨j + 1, by omega, by go_num, congrArg (Value.int .i64) (by have := HKe.out; omega), HR2.out.1, fun m hmj => ⟨g, rfl, HR2.out.2 m hmj⟩⟩
      case measure => simp [intOf]; omega
    · have e : j = n := by omega
      subst e
      go_wp2
      go_ret
      exact ⟨rfl, hm, fun m hmj => by obtain ⟨g, e, hx⟩ := hs.out m hmj; obtain ⟨g', e', hg', -⟩ := hr m hmj; rw [e] at e'; simp only [Option.some.injEq, Addr.mk.injEq, and_true] at e'; subst e'; exact ⟨g, e, Nat.lt_of_lt_of_le hg' hm.1, hx⟩⟩

set_option maxHeartbeats 400000 in
theorem markTube_any (s : ByteArray) (a : Option Addr) (n cap : Nat) (k : Int) (w : World) (hr : Rooms w a n) (hn : n ≤ 1048576) (h0 : 0 ≤ k) (h1 : k ≤ 10) :
    Calls Tryz.prog 22 #[.agg #[.string s, .slice a n cap], .int .i64 k] w fun e w' => e = .returned (.int .i64 (k + 6 * n)) ∧ Mk a w w' ∧ Marked w' a n k := by
  go_enter Tryz.func22, Tryz.ntmps22
  go_wp2_with (go_at_call 40; refine (markBoxS_any _ _ _ _ _ (rooms_gr hr ((Gr.refl _).alloc _)) hn h0 h1).mono ?_; rintro e w1 ⟨rfl, hm, hk⟩)
  go_ret
  exact ⟨rfl, hm.pre ((Gr.refl _).alloc _), hk⟩

end Go.Proofs.YtpdcgjkfilohcabGreat
